package journal

import (
	"iter"

	"passim/api"
	"passim/hash"
)

// Where the fields of a sector stand.
const (
	partAt    = 4
	leftAt    = 6
	payloadAt = 8
	sumAt     = 56
	payload   = sumAt - payloadAt // bytes of a payload
)

// sector is the content of a sector.
type sector [api.SectorSize]byte

// field is what a good sector says.
type field struct {
	number, part, left int
}

// number returns the number in some bytes, the least significant one first.
func number(b []byte) int {
	n := 0
	for i, c := range b {
		n |= int(c) << (8 * i)
	}
	return n
}

// put puts a number into some bytes.
func put(b []byte, n int) {
	for i := range b {
		b[i] = byte(n >> (8 * i))
	}
}

// check returns the bytes that show that a sector is right.
func check(s sector) [api.SectorSize - sumAt]byte {
	sum := hash.Sum(s[:sumAt])
	return [api.SectorSize - sumAt]byte(sum[:])
}

// sectorOf returns the sector of a part of a record.
func sectorOf(f field, text string) sector {
	var s sector
	put(s[:partAt], f.number)
	put(s[partAt:leftAt], f.part)
	put(s[leftAt:payloadAt], f.left)
	copy(s[payloadAt:sumAt], text)
	sum := check(s)
	copy(s[sumAt:], sum[:])
	return s
}

// read returns what a sector says, and whether it is good.
func read(s sector) (field, bool) {
	f := field{number(s[:partAt]), number(s[partAt:leftAt]), number(s[leftAt:payloadAt])}
	if check(s) != [api.SectorSize - sumAt]byte(s[sumAt:]) || f.number < 1 || f.number > api.MaxSector || payload*f.part+f.left > api.MaxRecord || f.left == 0 && f.part > 0 {
		return field{}, false
	}
	for _, c := range s[payloadAt+min(f.left, payload) : sumAt] {
		if c != 0 {
			return field{}, false
		}
	}
	return f, true
}

// text returns the bytes of the payload that are left.
func (s sector) text(f field) string {
	return string(s[payloadAt : payloadAt+min(f.left, payload)])
}

// Count returns the number of sectors of a text.
func Count(n int) int {
	if n < 0 || n > api.MaxRecord {
		return 0
	}
	return max((n+payload-1)/payload, 1)
}

// pack returns the sectors of a record.
func pack(number int, text string) []sector {
	var l []sector
	for part := range Count(len(text)) {
		rest := text[payload*part:]
		l = append(l, sectorOf(field{number, part, len(rest)}, rest[:min(len(rest), payload)]))
	}
	return l
}

// Pack returns the sectors of a record.
func Pack(number int, text string) ([]string, api.Errno) {
	if number < 1 || number > api.MaxSector {
		return nil, api.ErrArg
	}
	if len(text) > api.MaxRecord {
		return nil, api.ErrLimit
	}
	var l []string
	for _, s := range pack(number, text) {
		l = append(l, string(s[:]))
	}
	return l, api.OK
}

// Unpack returns what a good sector says.
func Unpack(text string) (number, part, left int, payload string, ok bool) {
	if len(text) != api.SectorSize {
		return 0, 0, 0, "", false
	}
	s := sector([]byte(text))
	f, ok := read(s)
	if !ok {
		return 0, 0, 0, "", false
	}
	return f.number, f.part, f.left, s.text(f), true
}

// parts yields the payloads of the sectors of the record with which some sectors begin, as long as they are right.
func parts(l []sector) iter.Seq2[int, string] {
	return func(yield func(int, string) bool) {
		if len(l) == 0 {
			return
		}
		first, ok := read(l[0])
		if !ok || first.part != 0 {
			return
		}
		for part := range min(Count(first.left), len(l)) {
			f, ok := read(l[part])
			if !ok || f != (field{first.number, part, first.left - payload*part}) || !yield(part, l[part].text(f)) {
				return
			}
		}
	}
}

// record returns the number and the text of the record with which some sectors begin, if they do.
func record(l []sector) (int, string, bool) {
	n, text := 0, ""
	for _, part := range parts(l) {
		text += part
		n++
	}
	if n == 0 {
		return 0, "", false
	}
	first, _ := read(l[0])
	return first.number, text, n == Count(first.left)
}
