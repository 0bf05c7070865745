package page

import (
	"strings"

	"passim/api"
	"passim/breaks"
	"passim/token"
	"passim/work"
)

// group is lines and notes that stand on one page.
type group struct {
	lines, notes []Line
	plate        bool
}

// size returns the number of lines and notes.
func (g group) size() int { return len(g.lines) + len(g.notes) }

// setter sets the articles of a work, up to the first text that is too wide.
type setter struct {
	Style
	printed map[api.ID]string
	wide    bool
}

// units returns for each unit of a text its first token, and that behind its last one.
func units(text string) [][2]int {
	var l [][2]int
	for i, x := range token.Split(text) {
		if x.At == 0 || text[x.At-1] == ' ' {
			l = append(l, [2]int{i, i})
		}
		l[len(l)-1][1] = i + 1
	}
	return l
}

// divide returns the lines of a text, each as the part of the text and the numbers of its units.
func (s *setter) divide(text string, line func(text string, from, to int)) {
	parts := strings.Split(text, " ")
	var widths []int
	for _, x := range parts {
		widths = append(widths, Measure(s.Style, x))
	}
	c, e := breaks.Fill(widths, 1, s.Width)
	if e != api.OK {
		s.wide = true
		return
	}
	from := 0
	for _, to := range c.Ends {
		line(strings.Join(parts[from:to], " "), from, to)
		from = to
	}
}

// title returns the lines of a title.
func (s *setter) title(text string) []Line {
	var l []Line
	s.divide(text, func(text string, _, _ int) { l = append(l, Line{ID: title(), Text: text}) })
	return l
}

// passage returns the lines of a passage.
func (s *setter) passage(p api.Passage) []Line {
	var l []Line
	u := units(p.Text)
	s.divide(shown(p, s.printed), func(text string, from, to int) {
		l = append(l, Line{ID: p.ID, From: u[from][0], To: u[to-1][1], Text: text})
	})
	return l
}

// article returns the groups of an article.
func (s *setter) article(a api.Article) []group {
	var l []group
	ahead := s.title(a.Title)
	if len(a.List) == 0 || a.List[0].Form == api.Plate {
		l, ahead = append(l, group{lines: ahead}), nil
	}
	for _, p := range a.List {
		lines := s.passage(p)
		switch {
		case p.Form == api.Plate:
			l = append(l, group{lines: lines, plate: true})
		case p.Form == api.Note && len(l) > 0:
			g := &l[len(l)-1]
			g.notes = append(g.notes, lines...)
		default:
			for _, x := range lines {
				l = append(l, group{lines: append(ahead, x)})
				ahead = nil
			}
		}
	}
	return l
}

// pages returns the pages of a volume with these groups.
func (s *setter) pages(volume int, groups []group) []Page {
	var l []Page
	plate := true
	for _, g := range groups {
		if plate || g.plate || len(l[len(l)-1].Lines)+len(l[len(l)-1].Notes)+g.size() > s.Height {
			l = append(l, Page{Volume: volume, Number: len(l) + 1})
		}
		p := &l[len(l)-1]
		p.Lines, p.Notes = append(p.Lines, g.lines...), append(p.Notes, g.notes...)
		plate = g.plate
	}
	return l
}

// Lay returns the pages of a work.
func Lay(w api.Work, style Style, marks []Mark) ([]Page, api.Errno) {
	if e := work.Valid(w); e != api.OK {
		return nil, e
	}
	if e := Valid(style); e != api.OK {
		return nil, e
	}
	s := &setter{Style: style, printed: printed(marks)}
	volumes := make([][]group, len(w.List))
	for i, v := range w.List {
		for _, a := range v.List {
			volumes[i] = append(volumes[i], s.article(a)...)
		}
		for _, g := range volumes[i] {
			s.wide = s.wide || g.size() > s.Height
		}
	}
	if s.wide {
		return nil, api.ErrWide
	}
	var l []Page
	for i, groups := range volumes {
		more := s.pages(i, groups)
		if len(more) > api.MaxPages {
			return nil, api.ErrLimit
		}
		l = append(l, more...)
	}
	return l, api.OK
}

// Check returns OK if l are the pages of a work.
func Check(w api.Work, s Style, marks []Mark, l []Page) api.Errno {
	pages, e := Lay(w, s, marks)
	if e == api.OK && !Same(pages, l) {
		return api.ErrDiffer
	}
	return e
}
