package columns

import (
	"cmp"
	"slices"
	"strconv"
	"strings"

	"passim/api"
	"passim/breaks"
	"passim/collate"
	"passim/heading"
	"passim/page"
	"passim/refer"
	"passim/span"
)

// Units that no word of a heading has.
const (
	located = "@"
	see     = "@see"
	also    = "@also"
)

// item is an entry or a reference.
type item struct {
	path  []string
	also  bool
	to    string
	level int
	of    int
	units []string
}

// line is a line with the heading of its item.
type line struct {
	Line
	head string
}

// rowText returns the text of a row.
func rowText(s Style, r heading.Row) (string, api.Errno) {
	sign := ":"
	if r.Main {
		sign = "*"
	}
	text, e := span.Print(s.Spans, r.List)
	return strconv.Itoa(r.Volume+1) + sign + " " + text, e
}

// entryItem returns the item of an entry.
func entryItem(s Style, i int, e heading.Entry) (item, api.Errno) {
	x := item{path: e.Path, level: len(e.Path) - 1, of: i, units: strings.Split(e.Path[len(e.Path)-1], " ")}
	var texts []string
	for _, r := range e.Rows {
		text, err := rowText(s, r)
		if err != api.OK {
			return item{}, err
		}
		texts = append(texts, text)
	}
	if len(texts) > 0 {
		x.units = append(x.units, located)
		x.units = append(x.units, strings.Split(strings.Join(texts, "; "), " ")...)
	}
	return x, api.OK
}

// refItem returns the item of a reference.
func refItem(i int, r refer.Ref) item {
	x := item{path: []string{r.From}, also: r.Also, to: r.To, of: -1 - i}
	to := strings.Split(r.To, " ")
	if r.Also {
		x.level, x.units = 1, append([]string{also}, to...)
	} else {
		x.units = slices.Concat(strings.Split(r.From, " "), []string{see}, to)
	}
	return x
}

// sortBy sorts a list by a function that compares.
func sortBy[T any](l []T, compare func(a, b T) int) []T {
	slices.SortStableFunc(l, compare)
	return l
}

// items returns the items of an index, in order.
func items(s Style, l []heading.Entry, refs []refer.Ref) ([]item, api.Errno) {
	var all []item
	for i, e := range l {
		x, err := entryItem(s, i, e)
		if err != api.OK {
			return nil, err
		}
		all = append(all, x)
	}
	for i, r := range refs {
		all = append(all, refItem(i, r))
	}
	keys := map[string][]int{}
	for _, x := range all {
		for _, word := range append([]string{x.to}, x.path...) {
			keys[word], _ = collate.Key(s.Order, word)
		}
	}
	word := func(a, b string) int { return cmp.Or(slices.Compare(keys[a], keys[b]), cmp.Compare(a, b)) }
	return sortBy(all, func(a, b item) int {
		kind := 0
		switch {
		case b.also && !a.also:
			kind = -1
		case a.also && !b.also:
			kind = 1
		case a.also:
			kind = word(a.to, b.to)
		}
		return cmp.Or(slices.CompareFunc(a.path, b.path, word), kind)
	}), api.OK
}

// divide divides units into the texts of lines.
func divide(s Style, units []string) ([]string, api.Errno) {
	var widths []int
	for _, u := range units {
		widths = append(widths, page.Measure(s.Page, u))
	}
	c, e := breaks.Fill(widths, 1, s.Page.Width-indent)
	if e != api.OK {
		return nil, e
	}
	var texts []string
	from := 0
	for _, to := range c.Ends {
		texts = append(texts, strings.Join(units[from:to], " "))
		from = to
	}
	return texts, api.OK
}

// lines returns the lines of an index, with the headings of their items.
func lines(s Style, l []heading.Entry, refs []refer.Ref) ([]line, api.Errno) {
	if e := check(s, l, refs); e != api.OK {
		return nil, e
	}
	all, e := items(s, l, refs)
	if e != api.OK {
		return nil, e
	}
	if slices.ContainsFunc(all, func(x item) bool { return len(x.units) > api.MaxTokens }) {
		return nil, api.ErrLimit
	}
	var set []line
	for _, x := range all {
		texts, e := divide(s, x.units)
		if e != api.OK {
			return nil, e
		}
		for i, text := range texts {
			level := x.level
			if i > 0 {
				level = goesOn
			}
			set = append(set, line{Line{level, x.of, text}, x.path[0]})
		}
	}
	return set, api.OK
}
