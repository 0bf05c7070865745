package question

import (
	"math/rand"
	"reflect"
	"slices"
	"testing"

	"passim/api"
)

func example() Table {
	return Table{[][]int{{0, 0, 1}, {0, 1, 1}, {1, 0, 2}}, []int{2, 2, 3}, []int{0, 1, 2}}
}

func leaf(class int) *Tree { return &Tree{Ask: -1, Class: class} }

func ask(q int, answers []int, kids ...*Tree) *Tree {
	return &Tree{Ask: q, Answers: answers, Kids: kids}
}

func TestExample(t *testing.T) {
	two := []int{0, 1}
	want := ask(0, two, ask(1, two, leaf(0), leaf(1)), leaf(2))
	x, cost, e := Best(example())
	if !reflect.DeepEqual(x, want) || cost != 4 || e != api.OK {
		t.Error("P16.3:", Encode(x), cost, e)
	}
	if g, cost, e := Greedy(example()); !reflect.DeepEqual(g, want) || cost != 4 || e != api.OK {
		t.Error("P16.4:", Encode(g), cost, e)
	}
	if class, asked, e := Follow(x, []int{0, 1, 9}); class != 1 || !slices.Equal(asked, two) || e != api.OK {
		t.Error("P16.6:", class, asked, e)
	}
	v := example()
	v.Class[1] = 0
	x, cost, e = Best(v)
	if !reflect.DeepEqual(x, ask(0, two, leaf(0), leaf(2))) || cost != 2 || e != api.OK || !slices.Equal(Encode(x), []int{0, 2, 0, 1, -1, 0, -1, 2}) {
		t.Error("P16.3, P16.7:", Encode(x), cost, e)
	}
	v = example()
	v.Answers[1][1] = 0
	if _, _, e := Best(v); e != api.ErrClash {
		t.Error("P16.3:", e)
	}
	if _, _, e := Greedy(v); e != api.ErrClash {
		t.Error("P16.4:", e)
	}
	if l, ok := Twins(v); l != [2]int{0, 1} || !ok {
		t.Error("P16.2:", l, ok)
	}
	if l := Groups(v); !reflect.DeepEqual(l, [][]int{{0, 1}, {2}}) {
		t.Error("P16.2:", l)
	}
	if l, ok := Twins(example()); l != [2]int{} || ok {
		t.Error("P16.2:", l, ok)
	}
}

func TestTables(t *testing.T) {
	for i, x := range []struct {
		change func(v *Table)
		e      api.Errno
	}{{func(v *Table) {}, api.OK}, {func(v *Table) { *v = Table{} }, api.ErrArg}, {func(v *Table) { v.Answers = make([][]int, 65) }, api.ErrLimit}, {func(v *Table) { v.Costs = make([]int, 65) }, api.ErrLimit}, {func(v *Table) { v.Class = v.Class[1:] }, api.ErrArg},
		{func(v *Table) { v.Class[0] = 64 }, api.ErrArg}, {func(v *Table) { v.Class[0] = -1 }, api.ErrArg}, {func(v *Table) { v.Answers[2] = v.Answers[2][1:] }, api.ErrArg}, {func(v *Table) { v.Costs[0] = 0 }, api.ErrArg}, {func(v *Table) { v.Costs[0] = 1025 }, api.ErrArg}, {func(v *Table) { v.Costs[0] = 1024 }, api.OK},
		{func(v *Table) { *v = Table{[][]int{{}}, nil, []int{63}} }, api.OK}} {
		v := example()
		x.change(&v)
		_, _, e2 := Best(v)
		_, _, e3 := Greedy(v)
		_, e4 := Check(v, nil)
		if e := Valid(v); e != x.e || e2 != e || e3 != e || e4 != e && (e != api.OK || e4 != api.ErrForm) {
			t.Error("P16.1:", i, e, e2, e3, e4)
		}
		if _, ok := Twins(v); ok || x.e != api.OK && len(Groups(v)) > 0 {
			t.Error("P16.2:", i)
		}
	}
	big := Table{Costs: []int{1}}
	for i := range 11 {
		big.Answers, big.Class = append(big.Answers, []int{i}), append(big.Class, i)
	}
	if x, _, e := Best(big); x != nil || e != api.ErrLimit {
		t.Error("P16.3:", e)
	}
	if x, cost, e := Greedy(big); len(x.Kids) != 11 || cost != 1 || e != api.OK {
		t.Error("P16.4:", cost, e)
	}
	big.Answers[10][0] = 0
	if _, _, e := Best(big); e != api.ErrClash {
		t.Error("P16.3: ErrClash comes first:", e)
	}
	// The question 1 leaves fewer worlds than 0; 2 costs less than 1; 3 comes behind 2.
	v := Table{[][]int{{0, 0, 0, 1}, {0, 0, 1, 0}, {0, 1, 0, 1}, {1, 1, 1, 0}}, []int{1, 3, 2, 2}, []int{0, 1, 2, 3}}
	if x, _, _ := Greedy(v); x.Ask != 2 {
		t.Error("P16.4:", x.Ask)
	}
}

func TestTrees(t *testing.T) {
	circle := ask(0, []int{1}, nil)
	circle.Kids[0] = circle
	shared := leaf(0)
	for range 60 {
		shared = ask(0, []int{0, 1}, shared, shared)
	}
	for i, x := range []*Tree{nil, {}, {Ask: -1, Class: 64}, {Ask: -1, Class: -1}, {Ask: -2}, {Ask: -1, Answers: []int{1}}, {Ask: -1, Kids: []*Tree{leaf(0)}}, {Ask: 64, Answers: []int{1}, Kids: []*Tree{leaf(0)}}, {Ask: 1, Class: 1, Answers: []int{1}, Kids: []*Tree{leaf(0)}},
		ask(1, []int{1, 1}, leaf(0), leaf(0)), ask(1, []int{1}, leaf(0), leaf(0)), ask(1, []int{1}, nil), circle, ask(1, []int{1}, circle)} {
		_, e := Check(example(), x)
		_, _, e2 := Follow(x, []int{1, 1, 1})
		if e != api.ErrForm || e2 != api.ErrForm || len(Encode(x)) > 0 {
			t.Error("P16.5, P16.6, P16.7:", i, e, e2)
		}
	}
	if class, asked, e := Follow(shared, []int{1}); class != 0 || len(asked) != 60 || e != api.OK {
		t.Error("P16.6: parts that are shared:", e)
	}
	good, _, _ := Best(example())
	for i, x := range []struct {
		x *Tree
		e api.Errno
	}{{good, api.OK}, {leaf(0), api.ErrDiffer}, {ask(3, []int{0, 1}, leaf(0), leaf(1)), api.ErrNone}, {ask(0, []int{0}, ask(1, []int{0, 1}, leaf(0), leaf(1))), api.ErrNone}, {ask(0, []int{0, 1}, leaf(0), leaf(2)), api.ErrDiffer}, {ask(0, []int{0, 1, 5}, good, leaf(2), leaf(9)), api.OK}} {
		if _, e := Check(example(), x.x); e != x.e {
			t.Error("P16.5:", i, e)
		}
	}
	if n, l, e := Follow(good, []int{0}); n != 0 || len(l) > 0 || e != api.ErrRange {
		t.Error("P16.6:", e)
	}
	if n, l, e := Follow(good, []int{0, 2}); n != 0 || len(l) > 0 || e != api.ErrNone {
		t.Error("P16.6:", e)
	}
	for i, l := range [][]int{nil, {-1}, {-1, 64}, {-1, 0, 0}, {0, 0}, {0, 2, 1, 1, -1, 0, -1, 0}, {0, 1, 1, -1}, {64, 1, 1, -1, 0}, {-2, 1, 1, -1, 0}, {0, 1 << 62, 1}, {0, -1}, {0, 1, 5}} {
		if x, e := Decode(l); x != nil || e != api.ErrForm {
			t.Error("P16.7:", i, e)
		}
	}
	if _, e := Decode(make([]int, 4097)); e != api.ErrLimit {
		t.Error("P16.7:", e)
	}
}

// least finds the least cost of a tree for some worlds by trying all.
func least(v Table, worlds []int) int {
	classes := map[int]bool{}
	for _, i := range worlds {
		classes[v.Class[i]] = true
	}
	if len(classes) == 1 {
		return 0
	}
	best := -1
	for q, cost := range v.Costs {
		parts := map[int][]int{}
		for _, i := range worlds {
			parts[v.Answers[i][q]] = append(parts[v.Answers[i][q]], i)
		}
		if len(parts) == 1 {
			continue
		}
		most := 0
		for _, p := range parts {
			most = max(most, least(v, p))
		}
		if best < 0 || most+cost < best {
			best = most + cost
		}
	}
	return best
}

func TestProperties(t *testing.T) {
	r := rand.New(rand.NewSource(1))
	for n := 0; n < 300; {
		v := Table{}
		for range 1 + r.Intn(4) {
			v.Costs = append(v.Costs, 1+r.Intn(5))
		}
		var all []int
		for i := range 1 + r.Intn(6) {
			row := make([]int, len(v.Costs))
			for k := range row {
				row[k] = r.Intn(3) - 1
			}
			v.Answers, v.Class, all = append(v.Answers, row), append(v.Class, r.Intn(4)), append(all, i)
		}
		if _, ok := Twins(v); ok {
			continue
		}
		n++
		x, cost, e := Best(v)
		got, e2 := Check(v, x)
		if e != api.OK || e2 != api.OK || got != cost || cost != least(v, all) {
			t.Fatal("P16.8, P16.9:", v, cost, got, e, e2)
		}
		g, cost2, _ := Greedy(v)
		if got, e := Check(v, g); got != cost2 || e != api.OK || cost2 < cost {
			t.Fatal("P16.8: Greedy:", v, cost2, got, e)
		}
		if y, e := Decode(Encode(x)); !reflect.DeepEqual(x, y) || e != api.OK {
			t.Fatal("P16.12:", Encode(x), e)
		}
		for i, row := range v.Answers {
			class, asked, e := Follow(g, row)
			sum := 0
			for _, q := range asked {
				sum += v.Costs[q]
			}
			if class != v.Class[i] || sum > cost2 || e != api.OK {
				t.Fatal("P16.11:", v, i)
			}
		}
		if len(v.Answers) > 1 {
			if _, less, _ := Best(Table{v.Answers[1:], v.Costs, v.Class[1:]}); less > cost {
				t.Fatal("P16.10:", v)
			}
		}
	}
}
