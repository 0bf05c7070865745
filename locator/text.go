package locator

import (
	"iter"
	"strconv"
	"strings"

	"passim/api"
	"passim/digit"
	"passim/span"
)

const (
	colon     = ":"
	separator = ", "
	modulus   = 97
	leastText = 4   // bytes of a printed locator
	mostText  = 256 // bytes of a text without its check sum
	sumLength = 3   // bytes of a check sum, with the ":" ahead of it
)

// checkSum returns the check sum of a text, in two digits.
func checkSum(text string) string {
	var weights, values []int
	w := 1
	for i := range len(text) {
		w = w * 10 % modulus
		weights, values = append(weights, w), append(values, int(text[i])-' ')
	}
	n, _ := digit.Sum(weights, modulus, values)
	return string([]byte{byte('0' + n/10), byte('0' + n%10)})
}

// point returns the printed form of a point that is a passage.
func point(p Point) string { return strconv.Itoa(p.Page) + "." + strconv.Itoa(p.K) }

// Print returns a printed locator.
func Print(s span.Style, l Locator) (string, api.Errno) {
	if span.Valid(s) != api.OK || Valid(l) != api.OK {
		return "", api.ErrArg
	}
	var parts []string
	for _, row := range runs(l.List, func(a, b Range) bool { return a.whole() && b.whole() }) {
		part, e := element(s, row)
		if e != api.OK {
			return "", e
		}
		parts = append(parts, part)
	}
	text := l.Mark + colon + strconv.Itoa(l.Volume+1) + colon + strings.Join(parts, separator)
	if len(text) > mostText {
		return "", api.ErrLimit
	}
	return text + colon + checkSum(text), api.OK
}

// element returns the printed form of a range of passages, or of a row of ranges of pages.
func element(s span.Style, row []Range) (string, api.Errno) {
	if r := row[0]; !r.whole() {
		if r.From == r.To {
			return point(r.From), api.OK
		}
		return point(r.From) + "-" + point(r.To), api.OK
	}
	var spans []span.Span
	for _, r := range row {
		spans = append(spans, span.Span{From: r.From.Page, To: r.To.Page})
	}
	return span.Print(s, spans)
}

// elements yields the printed ranges of passages, and the printed rows of pages between them.
func elements(t string) iter.Seq[string] {
	return func(yield func(string) bool) {
		passages := func(part string) bool { return strings.Contains(part, ".") }
		for _, row := range runs(strings.Split(t, separator), func(a, b string) bool { return !passages(a) && !passages(b) }) {
			if !yield(strings.Join(row, separator)) {
				return
			}
		}
	}
}

// readPoint reads the printed form of a point.
func readPoint(t string) Point {
	page, k, _ := strings.Cut(t, ".")
	p, _ := strconv.Atoi(page)
	n, _ := strconv.Atoi(k)
	return Point{p, n}
}

// readElement returns the ranges of an element; what it takes for one that it is not, prints differently.
func readElement(s span.Style, t string) []Range {
	if strings.Contains(t, ".") {
		from, to, ok := strings.Cut(t, "-")
		if !ok {
			to = from
		}
		return []Range{{readPoint(from), readPoint(to)}}
	}
	var l []Range
	spans, _ := span.Parse(s, t)
	for _, x := range spans {
		l = append(l, Range{Point{x.From, 0}, Point{x.To, 0}})
	}
	return l
}

// wellFormed reports whether a string looks like a text with a check sum.
func wellFormed(t string) bool {
	if len(t) < leastText || len(t) > mostText+sumLength {
		return false
	}
	for i := range len(t) {
		if t[i] < ' ' || t[i] > '~' {
			return false
		}
	}
	end := t[len(t)-sumLength:]
	decimal := func(c byte) bool { return c >= '0' && c <= '9' }
	return end[:1] == colon && decimal(end[1]) && decimal(end[2])
}

// Parse returns the locator whose printed form t is.
func Parse(s span.Style, t string) (Locator, api.Errno) {
	if e := span.Valid(s); e != api.OK {
		return Locator{}, e
	}
	if !wellFormed(t) {
		return Locator{}, api.ErrForm
	}
	text := t[:len(t)-sumLength]
	if checkSum(text) != t[len(t)-sumLength+1:] {
		return Locator{}, api.ErrSum
	}
	mark, rest, _ := strings.Cut(text, colon)
	volume, list, _ := strings.Cut(rest, colon)
	n, _ := strconv.Atoi(volume)
	l := Locator{Mark: mark, Volume: n - 1}
	for part := range elements(list) {
		l.List = append(l.List, readElement(s, part)...)
	}
	if again, e := Print(s, l); e != api.OK || again != t {
		return Locator{}, api.ErrForm
	}
	return l, api.OK
}
