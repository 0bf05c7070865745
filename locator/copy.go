package locator

import (
	"slices"

	"passim/api"
	"passim/page"
	"passim/printing"
)

// leaf is a page of a copy with its passages, none if it is missing.
type leaf struct {
	volume, number int
	missing        bool
	ids            []api.ID
}

// leaves returns the pages of a copy.
func leaves(c printing.Copy) []leaf {
	gone := map[int]bool{}
	for _, i := range c.Missing {
		gone[i] = true
	}
	var l []leaf
	for i, p := range c.Pages {
		x := leaf{volume: p.Volume, number: p.Number, missing: gone[i]}
		if !x.missing {
			x.ids = page.On(page.Page{Lines: slices.Concat(p.Lines, p.Notes), Notes: c.Slips[i]})
		}
		l = append(l, x)
	}
	return l
}

// On returns the passages that a locator names in the copy of a state.
func On(x printing.Issue, state int, l Locator) ([]api.ID, api.Errno) {
	c, e := printing.Read(x, state)
	if e != api.OK {
		return nil, e
	}
	if Valid(l) != api.OK {
		return nil, api.ErrArg
	}
	if code, _ := printing.Code(x, state); code != l.Mark {
		return nil, api.ErrStale
	}
	on := map[int][]api.ID{}
	last := 0
	for _, p := range leaves(c) {
		if p.volume == l.Volume {
			on[p.number], last = p.ids, p.number
		}
	}
	named := map[api.ID]bool{}
	for _, r := range l.List {
		for _, p := range [2]Point{r.From, r.To} {
			if p.Page > last || p.K > len(on[p.Page]) {
				return nil, api.ErrRange
			}
		}
		for n := r.From.Page; n <= r.To.Page; n++ {
			for i, id := range on[n] {
				at := Point{n, i + 1}
				if r.whole() || compare(r.From, at) <= 0 && compare(at, r.To) <= 0 {
					named[id] = true
				}
			}
		}
	}
	return slices.DeleteFunc(printing.Has(c), func(id api.ID) bool { return !named[id] }), api.OK
}

// Of returns locators that together name some passages in the copy of a state.
func Of(x printing.Issue, state int, ids []api.ID) ([]Locator, api.Errno) {
	c, e := printing.Read(x, state)
	if e != api.OK {
		return nil, e
	}
	// wanted has the passages that no range names so far.
	wanted, stands, pages := map[api.ID]bool{}, map[api.ID]bool{}, leaves(c)
	for _, id := range printing.Has(c) {
		stands[id] = true
	}
	for _, id := range ids {
		if !stands[id] {
			return nil, api.ErrNone
		}
		wanted[id] = true
	}
	full := make([]bool, len(pages))
	for i, p := range pages {
		full[i] = len(p.ids) > 0 && !slices.ContainsFunc(p.ids, func(id api.ID) bool { return !wanted[id] })
	}
	for i, p := range pages {
		for _, id := range p.ids {
			if full[i] {
				delete(wanted, id)
			}
		}
	}
	mark, _ := printing.Code(x, state)
	var l []Locator
	for volume := range api.MaxVolumes {
		list := ranges(pages, full, volume, wanted)
		if len(list) == 0 {
			continue
		}
		one := Locator{Mark: mark, Volume: volume, List: list}
		if Valid(one) != api.OK {
			return nil, api.ErrLimit
		}
		l = append(l, one)
	}
	return l, api.OK
}

// ranges returns the ranges of a volume: those of its full pages, and those of the wanted passages, which it takes out of wanted.
func ranges(pages []leaf, full []bool, volume int, wanted map[api.ID]bool) []Range {
	var points []Point
	for i, p := range pages {
		if p.volume != volume {
			continue
		}
		if full[i] {
			points = append(points, Point{p.number, 0})
		}
		for k, id := range p.ids {
			if wanted[id] {
				points = append(points, Point{p.number, k + 1})
				delete(wanted, id)
			}
		}
	}
	on := func(a, b Point) bool {
		if a.K == 0 || b.K == 0 {
			return a.K == b.K && b.Page == a.Page+1
		}
		return b.Page == a.Page && b.K == a.K+1
	}
	var l []Range
	for _, run := range runs(points, on) {
		l = append(l, Range{run[0], run[len(run)-1]})
	}
	return l
}
