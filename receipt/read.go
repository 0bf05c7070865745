package receipt

import (
	"passim/heading"
	"passim/parts"
	"passim/span"
	"passim/wire"
)

// reader reads the parts of a value; behind one that cannot be read there are only empty ones.
type reader struct {
	numbers func() []int
	number  func() int
	texts   func() []string
	whole   func() bool // whether all could be read, and nothing follows
}

// readerOf returns the reader of a value.
func readerOf(v string) reader {
	r := parts.Of([]byte(v))
	return reader{
		numbers: func() []int { return parts.Next(r, wire.GetInts, parts.Any) },
		number:  func() int { return parts.Next(r, wire.GetInt, parts.Any) },
		texts:   func() []string { return parts.Next(r, wire.GetStrings, parts.Any) },
		whole:   r.Whole,
	}
}

// entries returns the entries of a value, as far as they can be read; those of another value have another encoding.
func entries(v string) []heading.Entry {
	r := readerOf(v)
	var l []heading.Entry
	// Each entry and each row takes a byte at least.
	for range min(r.number(), len(v)) {
		e := heading.Entry{Path: r.texts()}
		for range min(r.number(), len(v)) {
			numbers := r.numbers()
			if len(numbers) < 2 || len(numbers)%2 != 0 {
				return nil
			}
			row := heading.Row{Volume: numbers[0], Main: numbers[1] == 1}
			for i := 2; i < len(numbers); i += 2 {
				row.List = append(row.List, span.Span{From: numbers[i], To: numbers[i+1]})
			}
			e.Rows = append(e.Rows, row)
		}
		l = append(l, e)
	}
	if !r.whole() {
		return nil
	}
	return l
}
