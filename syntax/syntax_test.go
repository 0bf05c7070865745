package syntax

import (
	"math/rand"
	"slices"
	"strings"
	"testing"

	"passim/api"
)

func parse(t *testing.T, s string) api.Node {
	n, at, e := Parse(s)
	if at != 0 || e != api.OK {
		t.Fatal(s, at, e)
	}
	return n
}

func TestExample(t *testing.T) {
	n := parse(t, "let few=6 rule r no heading if few<locators and[subs=0]")
	if s := Print(n); s != "let few = 6\nrule r no heading if few < locators and subs = 0\n" {
		t.Error("P22.3:", s)
	}
	if Size(n) != 11 {
		t.Error("P22.4:", Size(n))
	}
	and := n.Kids[1].Kids[0]
	if n.Kind != Policy || n.Kids[0].Kind != Let || n.Kids[0].Text != "few" || n.Kids[0].Kids[0].N != 6 || n.Kids[1].Kind != Heading || and.Kind != And || and.Kids[0].Kind != Less || and.Kids[0].Kids[1].Text != "locators" || and.Kids[1].Kind != Equal {
		t.Error("P22.2:", n)
	}
	s := Print(parse(t, "rule p each person demand post if some sentence[mentions=2]"))
	if s != "rule p each person demand post if some sentence [mentions = 2]\n" {
		t.Error("P22.3:", s)
	}
}

func TestPrint(t *testing.T) {
	for source, want := range map[string]string{
		"":                     "",
		" \n ":                 "",
		"let a = 007":          "let a = 7\n",
		"let a=((1))let b=a":   "let a = 1\nlet b = a\n",
		"let a=(1+2)-(3-4)*5":  "let a = 1 + 2 - (3 - 4) * 5\n",
		"let a=1*(2*3)*4":      "let a = 1 * (2 * 3) * 4\n",
		"let a=1-(2-(3))+4":    "let a = 1 - (2 - 3) + 4\n",
		"let a=(mentions)*9b1": "",
		"rule a entry term demand see if not[not 1=2]":                                   "rule a entry term demand see if not not 1 = 2\n",
		"rule a entry place demand heading":                                              "rule a entry place demand heading\n",
		"rule a each subject demand main if[1=2 or 3=4]and 5<=6":                         "rule a each subject demand main if [1 = 2 or 3 = 4] and 5 <= 6\n",
		"rule a each term demand absent if 1=2 or[3=4 or 5=6]":                           "rule a each term demand absent if 1 = 2 or [3 = 4 or 5 = 6]\n",
		"rule a no heading if[1=2 and 3=4]and 5=6 or 7=8 and[9=0 and 1=1]":               "rule a no heading if 1 = 2 and 3 = 4 and 5 = 6 or 7 = 8 and [9 = 0 and 1 = 1]\n",
		"rule a no heading if every sentence[[1=2]]or not[3=4 and 5=6]":                  "rule a no heading if every sentence [1 = 2] or not [3 = 4 and 5 = 6]\n",
		"rule a no heading if(1+2)*3<(4)rule b no heading if aliases=subs+(level-mains)": "rule a no heading if (1 + 2) * 3 < 4\nrule b no heading if aliases = subs + (level - mains)\n",
	} {
		n, at, e := Parse(source)
		if want == "" && source != "" && strings.Trim(source, " \n") != "" {
			if e != api.ErrForm {
				t.Error("P22.2:", source, at, e)
			}
			continue
		}
		if got := Print(n); got != want || e != api.OK || !Valid(n) {
			t.Error("P22.3:", source, got, at, e)
		}
	}
}

func TestErrors(t *testing.T) {
	long := strings.Repeat("x", 25)
	for source, at := range map[string]int{
		"let w = ) 4": 8, "let form = 4": 4, "let": 3, "let ": 4, "let a = 1 +": 11, "let a = 1234567890": 8, "let " + long: 4, "let " + long[1:] + " = 1 <": 33, "let a = 1 <= 2": 10, "rule": 4, "rule r": 6, "rule r of": 7, "rule r each": 11, "rule r each see": 12,
		"rule r each term demand heading": 24, "rule r entry term demand post": 25, "rule r no heading": 17, "rule r no heading if": 20, "rule r no heading if 1": 22, "rule r no heading if (1 = 2)": 24, "rule r no heading if [1]": 23, "rule r no heading if 1 = 2 = 3": 27, "rule r no heading if some sentence 1 = 1": 35,
		"rule r no heading if some [1 = 1]": 26, "rule r no heading if not": 24, "rule r no heading if [1 = 2": 27, "A": 0, "let a = 1 ;": 10, "let a = 1\tlet": 9, "a": 0, "let a = 1 2": 10, "let a = 1b": 9, "let a = (1": 10, "let a = -1": 8, "let a = 1 let": 13, ";let": 0, "let a ) ;": 6, "rule r each term demand post if let": 32,
		"let a1 = 1 let 1a = 1": 15,
	} {
		if n, k, e := Parse(source); !Same(n, api.Node{}) || k != at || e != api.ErrForm {
			t.Error("P22.2:", source, k, e)
		}
	}
	big := strings.Repeat(" ", 8193)
	if n, k, e := Parse(big); !Same(n, api.Node{}) || k != 8192 || e != api.ErrLimit {
		t.Error("P22.2:", k, e)
	}
	parse(t, big[1:])
	sum := func(n int) string { return "let a = 1" + strings.Repeat("+1", n) }
	if n := parse(t, sum(29)); !Valid(n) {
		t.Error("P22.1")
	}
	if n, k, e := Parse(sum(30)); !Same(n, api.Node{}) || k != 0 || e != api.ErrLimit {
		t.Error("P22.2: the depth:", k, e)
	}
	if _, k, e := Parse(sum(30) + "+"); k != len(sum(30))+1 || e != api.ErrForm {
		t.Error("P22.2: ErrForm comes first:", k, e)
	}
	parse(t, "let a = "+strings.Repeat("(", 3000)+"1"+strings.Repeat(")", 3000))
	wide := strings.Repeat("let a="+strings.Repeat("1+", 24)+"1 ", 140)
	if _, k, e := Parse(wide); k != 0 || e != api.ErrLimit || len(wide) > 8192 {
		t.Error("P22.2: the text:", k, e, len(wide))
	}
}

func TestValid(t *testing.T) {
	num := api.Node{Kind: Num, N: 1}
	less := api.Node{Kind: Less, Kids: []api.Node{num, num}}
	post := api.Node{Kind: Deed, Text: "post"}
	policy := func(items ...api.Node) api.Node { return api.Node{Kids: items} }
	let := func(v api.Node) api.Node { return policy(api.Node{Kind: Let, Text: "a", Kids: []api.Node{v}}) }
	if !Valid(let(num)) || !Valid(policy()) || !Valid(policy(api.Node{Kind: Mention, Text: "a", N: 3, Kids: []api.Node{post, less}})) {
		t.Error("P22.1")
	}
	for i, n := range []api.Node{num, let(less), let(api.Node{Kind: Num, N: -1}), let(api.Node{Kind: Num, N: 1000000000}), let(api.Node{Kind: Num, Text: "1"}), let(api.Node{Kind: Add, Kids: []api.Node{num}}), let(api.Node{Kind: Add, N: 1, Kids: []api.Node{num, num}}),
		let(api.Node{Kind: Name, Text: "form"}), let(api.Node{Kind: Name, Text: "9"}), let(api.Node{Kind: Name}), let(api.Node{Kind: Name, Text: "a b"}), let(api.Node{Kind: Name, Text: "b", N: 1}), let(api.Node{Kind: Field, Text: "b"}), let(api.Node{Kind: Name, Text: strings.Repeat("b", 25)}),
		{Text: "x"}, {N: 1}, policy(num), policy(api.Node{Kind: Let, Text: "let", Kids: []api.Node{num}}), policy(api.Node{Kind: Let, Text: "a", N: 1, Kids: []api.Node{num}}), policy(api.Node{Kind: Mention, Text: "a", N: 4, Kids: []api.Node{post}}), policy(api.Node{Kind: Mention, Text: "a", N: -1, Kids: []api.Node{post}}),
		policy(api.Node{Kind: Mention, Text: "a", Kids: []api.Node{less}}), policy(api.Node{Kind: Entry, Text: "a", Kids: []api.Node{post}}), policy(api.Node{Kind: Mention, Text: "a"}), policy(api.Node{Kind: Mention, Text: "a", Kids: []api.Node{post, less, less}}), policy(api.Node{Kind: Heading, Text: "a", Kids: []api.Node{num}}),
		policy(api.Node{Kind: Heading, Text: "a", N: 1, Kids: []api.Node{less}}), let(api.Node{Kind: Num, Kids: []api.Node{num}}), let(api.Node{Kind: Kinds}), let(api.Node{Kind: -1}), policy(api.Node{Kind: Mention, Text: "a", Kids: []api.Node{{Kind: Deed, Text: "post", N: 1}}}),
		policy(api.Node{Kind: Heading, Text: "a", Kids: []api.Node{{Kind: Not, Kids: []api.Node{less, less}}}}), policy(api.Node{Kind: Heading, Text: "a", Kids: []api.Node{{Kind: Some, Text: "x", Kids: []api.Node{less}}}})} {
		if Valid(n) || Print(n) != "" {
			t.Error("P22.1:", i)
		}
	}
	deep := num
	for range 40 {
		deep = api.Node{Kind: Add, Kids: []api.Node{deep, deep}}
	}
	if Valid(let(deep)) {
		t.Error("P22.1: a deep tree")
	}
	a := let(num)
	b := Copy(a)
	b.Kids[0].Kids[0].N = 2
	if Same(a, b) || a.Kids[0].Kids[0].N != 1 || !Same(api.Node{Kids: []api.Node{}}, api.Node{}) {
		t.Error("P22.4")
	}
}

func TestWords(t *testing.T) {
	want := strings.Fields("absent aliases and broader demand each entry every form heading if let level locators main mains mentions narrower no not notes or person place post rule see sentence sentences some subject subs term tokens")
	if l := Words(); !slices.Equal(l, want) {
		t.Error("P22.4:", l)
	}
	Words()[0] = "changed"
	if Words()[0] != "absent" {
		t.Error("P22.4: memory is shared")
	}
}

// random returns a test or a value.
func random(r *rand.Rand, depth int, test bool) api.Node {
	kids := func(n int, test bool) (l []api.Node) {
		for range n {
			l = append(l, random(r, depth-1, test))
		}
		return l
	}
	if test {
		kind := []int{Less, Most, Equal, Not, Some, Every, Or, And, Or, And}[r.Intn(10)]
		if depth <= 1 {
			kind = Less + r.Intn(3)
		}
		switch kind {
		case Less, Most, Equal:
			return api.Node{Kind: kind, Kids: kids(2, false)}
		case Or, And:
			return api.Node{Kind: kind, Kids: kids(2, true)}
		}
		return api.Node{Kind: kind, Kids: kids(1, true)}
	}
	if depth <= 0 || r.Intn(3) == 0 {
		return []api.Node{{Kind: Num, N: r.Intn(99)}, {Kind: Name, Text: "xy9"}, {Kind: Field, Text: "notes"}}[r.Intn(3)]
	}
	return api.Node{Kind: Add + r.Intn(3), Kids: kids(2, false)}
}

func TestAgain(t *testing.T) {
	r := rand.New(rand.NewSource(1))
	last := api.Node{}
	for range 500 {
		n := api.Node{}
		for range r.Intn(4) {
			n.Kids = append(n.Kids, []api.Node{{Kind: Let, Text: "k", Kids: []api.Node{random(r, 4, false)}}, {Kind: Heading, Text: "h", Kids: []api.Node{random(r, 5, true)}},
				{Kind: Mention, Text: "m", N: r.Intn(4), Kids: []api.Node{{Kind: Deed, Text: "main"}, random(r, 4, true)}}, {Kind: Entry, Text: "e", N: r.Intn(4), Kids: []api.Node{{Kind: Deed, Text: "see"}}}}[r.Intn(4)])
		}
		if !Valid(n) {
			continue
		}
		s := Print(n)
		got := parse(t, s)
		if !Same(got, n) || Print(got) != s {
			t.Fatal("P22.5:", s)
		}
		spaced := strings.NewReplacer(" ", " \n ", "[", "[ ", ")", " )").Replace(s)
		if tight := strings.NewReplacer(" = ", "=", " < ", "<", " * ", "*").Replace(s); len(spaced) <= 8192 && (!Same(parse(t, spaced), n) || !Same(parse(t, tight), n)) {
			t.Fatal("P22.6:", s)
		}
		if len(s) > 0 {
			k := r.Intn(len(s))
			broken := s[:k] + []string{")", "let", "; ", "9"}[r.Intn(4)] + s[k:]
			if _, at, e := Parse(broken); e == api.ErrForm {
				_, at2, e2 := Parse(broken[:at])
				if !(e2 == api.OK || e2 == api.ErrForm && at2 == at || e2 == api.ErrLimit && at2 == 0) {
					t.Fatal("P22.7:", broken, at, at2, e2)
				}
			}
		}
		whole := api.Node{Kids: slices.Concat(last.Kids, n.Kids)}
		if text := Print(last) + s; len(text) <= 8192 && (Print(whole) != text || !Valid(whole)) {
			t.Fatal("P22.8")
		}
		last = n
	}
}
