package typing

import (
	"fmt"
	"slices"
	"strings"
	"testing"

	"passim/api"
	"passim/syntax"
)

func parse(t *testing.T, s string) api.Node {
	n, at, e := syntax.Parse(s)
	if e != api.OK {
		t.Fatal(s, at, e)
	}
	return n
}

const example = "let few = 2 let many = few * few rule r no heading if many < locators"

func TestCheck(t *testing.T) {
	for source, want := range map[string]Fault{
		example:                                  {},
		"":                                       {},
		"let few = many let many = 2":            {0, api.ErrName},
		"let a = a":                              {0, api.ErrName},
		"let a = 1 let a = a":                    {1, api.ErrTwice},
		"let a = mentions":                       {0, api.ErrType},
		"let a = x + mentions":                   {0, api.ErrName},
		"let a = mentions + x":                   {0, api.ErrType},
		"let a = 999999999 + 1":                  {},
		"let a = 999999999 + 2":                  {0, api.ErrRange},
		"let a = 999999999 * 0 - 2":              {},
		"let a = 0 - 999999999 - 2":              {0, api.ErrRange},
		"let a = 999999999 * 9 * 0":              {0, api.ErrRange},
		"let a = 999999999 let b = a * 2 - a":    {1, api.ErrRange},
		"rule r no heading if mentions = 1":      {0, api.ErrType},
		"rule r no heading if 999999999 * 9 = 1": {},
		"rule r no heading if locators + mains + level + subs = 1":                        {},
		"rule r no heading if some sentence [tokens = 1]":                                 {0, api.ErrType},
		"rule r each term demand post if some sentence [mentions = 2] let r = 1":          {1, api.ErrTwice},
		"rule r each term demand post if some sentence [form = 2]":                        {0, api.ErrType},
		"rule r each term demand post if every sentence [not some sentence [tokens = 1]]": {0, api.ErrType},
		"rule r each term demand post if every sentence [1 = 1] and form = notes":         {},
		"rule r each term demand post if mentions + sentences + tokens = 9":               {},
		"rule r each term demand post if subs = 9":                                        {0, api.ErrType},
		"rule r entry term demand see if broader + narrower = aliases":                    {},
		"rule r entry term demand see if every sentence [1 = 1]":                          {0, api.ErrType},
		"rule r entry term demand see if locators = 1":                                    {0, api.ErrType},
		"rule r each term demand post let a = r":                                          {1, api.ErrType},
		"rule r each term demand post rule s no heading if r = 1":                         {1, api.ErrType},
		"rule r each term demand post if s = 1 let s = 1":                                 {0, api.ErrName},
	} {
		n := parse(t, source)
		f, ok := Check(n)
		if f != want || ok != (want == Fault{}) {
			t.Error("P23.1:", source, f, ok)
		}
		if f2, ok2 := Check(parse(t, syntax.Print(n))); f2 != f || ok2 != ok {
			t.Error("P23.9:", source)
		}
		if v, e := Constant(n, "zz"); v != 0 || e != want.E && (!ok || e != api.ErrName) {
			t.Error("P23.6:", source, v, e)
		}
		if l, e := Needs(n, 99); len(l) > 0 || e != want.E && (!ok || e != api.ErrRange) {
			t.Error("P23.5:", source, e)
		}
		if !ok && want.Item > 0 {
			n.Kids = n.Kids[:want.Item]
			if _, ok := Check(n); !ok {
				t.Error("P23.7:", source)
			}
		}
	}
	bad := api.Node{Kind: syntax.Let}
	if f, ok := Check(bad); f != (Fault{0, api.ErrForm}) || ok {
		t.Error("P23.1:", f, ok)
	}
	_, e := Needs(bad, 0)
	_, e2 := Constant(bad, "a")
	if e != api.ErrForm || e2 != e || len(Names(bad, syntax.Let))+len(Uses(bad, "a")) > 0 {
		t.Error("P23.3 to P23.6: a tree that is not valid:", e, e2)
	}
}

func TestExample(t *testing.T) {
	n := parse(t, example)
	if v, e := Constant(n, "many"); v != 4 || e != api.OK {
		t.Error("P23.6:", v, e)
	}
	if _, e := Constant(n, "r"); e != api.ErrName {
		t.Error("P23.6:", e)
	}
	if l, e := Needs(n, 2); !slices.Equal(l, []int{0, 1}) || e != api.OK {
		t.Error("P23.5:", l, e)
	}
	if l, e := Needs(n, 0); len(l) > 0 || e != api.OK {
		t.Error("P23.5:", l, e)
	}
	for _, k := range []int{-1, 3} {
		if l, e := Needs(n, k); len(l) > 0 || e != api.ErrRange {
			t.Error("P23.5:", k, l, e)
		}
	}
	if l := Uses(n, "few"); !slices.Equal(l, []int{1}) || len(Uses(n, "r")) > 0 {
		t.Error("P23.4:", l)
	}
	twice := parse(t, "let a = 1 let b = 2 rule c no heading if x = 1 let a = 3 rule x no heading if a = x")
	if l := Names(twice, syntax.Let); !slices.Equal(l, []string{"a", "b", "a"}) || !slices.Equal(Names(twice, syntax.Heading), []string{"c", "x"}) || len(Names(twice, syntax.Num)) > 0 {
		t.Error("P23.3:", l)
	}
	if l := Uses(twice, "x"); !slices.Equal(l, []int{2, 4}) {
		t.Error("P23.4:", l)
	}
}

func TestFields(t *testing.T) {
	for kind := -1; kind <= syntax.Kinds; kind++ {
		want, inside := []string(nil), []string(nil)
		switch kind {
		case syntax.Mention:
			want, inside = []string{"mentions", "sentences", "tokens", "form", "notes"}, []string{"mentions", "tokens"}
		case syntax.Heading:
			want = []string{"locators", "mains", "level", "subs"}
		case syntax.Entry:
			want = []string{"broader", "narrower", "aliases"}
		}
		if !slices.Equal(Fields(kind, false), want) || !slices.Equal(Fields(kind, true), inside) {
			t.Error("P23.2:", kind)
		}
	}
}

func TestMany(t *testing.T) {
	var b strings.Builder
	b.WriteString("let a0 = 1\n")
	for i := range 200 {
		fmt.Fprintf(&b, "let a%d = a%d - a%d + 1\n", i+1, i, i)
	}
	n := parse(t, b.String())
	if v, e := Constant(n, "a200"); v != 1 || e != api.OK {
		t.Error("P23.6:", v, e)
	}
	if l, e := Needs(n, 200); len(l) != 200 || e != api.OK {
		t.Error("P23.5:", len(l), e)
	}
}

func TestChanged(t *testing.T) {
	n := parse(t, "let a = 3 let b = a * 2 let c = 5 rule r no heading if b < locators rule s each term demand post if mentions = a")
	for i, item := range n.Kids {
		less := api.Node{Kids: slices.Delete(slices.Clone(n.Kids), i, i+1)}
		f, ok := Check(less)
		if uses := Uses(n, item.Text); len(uses) == 0 && !ok || len(uses) > 0 && f != (Fault{uses[0] - 1, api.ErrName}) {
			t.Error("P23.7:", i, f, ok)
		}
		first := api.Node{Kids: n.Kids[:i]}
		if _, ok := Check(first); !ok {
			t.Error("P23.7:", i)
		}
	}
	renamed := parse(t, strings.NewReplacer(" a ", " zed ", "= a\n", "= zed\n").Replace(syntax.Print(n)))
	if _, ok := Check(renamed); !ok {
		t.Error("P23.8")
	}
	put := parse(t, strings.NewReplacer("= a *", "= 3 *", "= a\n", "= 3\n").Replace(syntax.Print(n)))
	for _, x := range []api.Node{renamed, put} {
		if v, e := Constant(x, "b"); v != 6 || e != api.OK {
			t.Error("P23.8, P23.10:", v, e)
		}
	}
}
