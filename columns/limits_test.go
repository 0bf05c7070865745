package columns

import (
	"strconv"
	"testing"

	"passim/api"
	"passim/heading"
	"passim/refer"
	"passim/span"
)

func TestLimits(t *testing.T) {
	var l []heading.Entry
	var refs []refer.Ref
	for i := range 256 {
		l = append(l, entry(nil, "a"+strconv.Itoa(i)))
		refs = append(refs, refer.Ref{From: "b" + strconv.Itoa(i), To: "a0"})
	}
	s := style()
	p, e := Lay(s, l, refs)
	entries, read, e2 := Read(s, p)
	if len(entries) != 256 || len(read) != 256 || e != api.OK || e2 != api.OK {
		t.Error("P35.2:", len(entries), len(read), e, e2)
	}
	if _, e := Lay(s, append(l, entry(nil, "c")), refs); e != api.ErrLimit {
		t.Error("P35.2:", e)
	}
	// The word, the "@", the volume and 253 spans are 256 units.
	var spans []span.Span
	for n := range 253 {
		spans = append(spans, span.Span{From: 3*n + 1, To: 3*n + 1})
	}
	if _, e := Lines(s, []heading.Entry{entry([]heading.Row{{List: spans}}, "a")}, nil); e != api.OK {
		t.Error("P35.2:", e)
	}
	spans = append(spans, span.Span{From: 999, To: 999})
	if _, e := Lines(s, []heading.Entry{entry([]heading.Row{{List: spans}}, "a")}, nil); e != api.ErrLimit {
		t.Error("P35.2:", e)
	}
}

func TestRepeatedAtAll(t *testing.T) {
	s := style()
	s.Columns, s.Page.Height = 1, 3
	l := []heading.Entry{entry(nil, "ode"), entry(nil, "ode", "b"), entry(nil, "ode", "c"), entry(nil, "ode", "d"), entry(nil, "zeno")}
	p, e := Lay(s, l, nil)
	want := []Page{{[][]Line{{{0, 0, "ode"}, {1, 1, "b"}, {1, 2, "c"}}}}, {[][]Line{{{5, 3, "ode"}, {5, 3, "@cont"}, {1, 3, "d"}}}}, {[][]Line{{{0, 4, "zeno"}}}}}
	if !same(p, want, true) || e != api.OK {
		t.Error("P35.3:", p, e)
	}
}
