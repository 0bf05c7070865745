package host

import (
	"slices"

	"passim/api"
	"passim/archive"
	"passim/parts"
	"passim/wire"
)

// ends is how many numbers of a message stand ahead of the counts of heads.
const ends = 2

// message is what a packet says.
type message struct {
	from, to int
	heads    []archive.Head
	events   []api.Event
}

// encode returns the bytes of a message.
func (m message) encode() []byte {
	numbers := []int{m.from, m.to}
	var sums []api.Digest
	for _, h := range m.heads {
		numbers, sums = append(numbers, h.Count), append(sums, h.Sum)
	}
	return slices.Concat(wire.Ints(numbers), wire.Digests(sums), archive.Encode(m.events))
}

// decode returns the message with some bytes, if it is well formed for n hosts.
func decode(b []byte, n int) (message, bool) {
	r := parts.Of(b)
	numbers := parts.Next(r, wire.GetInts, func(l []int) bool { return len(l) == ends+n })
	sums := parts.Next(r, wire.GetDigests, func(l []api.Digest) bool { return len(l) == n })
	used, e := r.Used()
	if e != api.OK {
		return message{}, false
	}
	events, e := archive.Decode(b[used:])
	if e != api.OK {
		return message{}, false
	}
	m := message{from: numbers[0], to: numbers[1], events: events}
	for i, sum := range sums {
		m.heads = append(m.heads, archive.Head{Count: numbers[ends+i], Sum: sum})
	}
	return m, true
}
