package columns

import (
	"slices"
	"strconv"
	"strings"

	"passim/api"
	"passim/heading"
	"passim/refer"
	"passim/span"
)

// reader collects the entries and references of the items that it reads.
type reader struct {
	s       Style
	entries []heading.Entry
	refs    []refer.Ref
	path    []string // that of the last entry
}

// rows returns the rows whose texts stand behind each other.
func (r *reader) rows(text string) []heading.Row {
	var l []heading.Row
	for part := range strings.SplitSeq(text, "; ") {
		volume, list, _ := strings.Cut(part, " ")
		number, main := strings.CutSuffix(volume, "*")
		if !main {
			number = strings.TrimSuffix(volume, ":")
		}
		n, _ := strconv.Atoi(number)
		spans, _ := span.Parse(r.s.Spans, list)
		l = append(l, heading.Row{Volume: n - 1, Main: main, List: spans})
	}
	return l
}

// item reads an item of a level. What it takes for one that it is not, is set differently.
func (r *reader) item(level int, units []string) {
	if k := slices.Index(units, see); k >= 0 {
		r.refs = append(r.refs, refer.Ref{From: strings.Join(units[:k], " "), To: strings.Join(units[k+1:], " ")})
		return
	}
	if units[0] == also {
		from := ""
		if len(r.path) > 0 {
			from = r.path[0]
		}
		r.refs = append(r.refs, refer.Ref{From: from, To: strings.Join(units[1:], " "), Also: true})
		return
	}
	e := heading.Entry{}
	k := slices.Index(units, located)
	if k >= 0 {
		e.Rows = r.rows(strings.Join(units[k+1:], " "))
	} else {
		k = len(units)
	}
	e.Path = append(slices.Clone(r.path[:min(level, len(r.path))]), strings.Join(units[:k], " "))
	r.entries, r.path = append(r.entries, e), e.Path
}

// Read returns the entries and references whose pages are p, but for the Of of their lines.
func Read(s Style, p []Page) ([]heading.Entry, []refer.Ref, api.Errno) {
	if e := Valid(s); e != api.OK {
		return nil, nil, e
	}
	r := &reader{s: s}
	level, units := 0, []string(nil)
	flush := func() {
		if len(units) > 0 {
			r.item(level, units)
		}
		units = nil
	}
	for _, x := range p {
		for _, column := range x.Columns {
			for _, l := range column {
				if l.Level == repeated {
					continue
				}
				if l.Level != goesOn {
					flush()
					level = max(l.Level, 0)
				}
				units = append(units, strings.Split(l.Text, " ")...)
			}
		}
	}
	flush()
	if pages, e := Lay(s, r.entries, r.refs); e != api.OK || !same(pages, p, false) {
		return nil, nil, api.ErrForm
	}
	return r.entries, r.refs, api.OK
}
