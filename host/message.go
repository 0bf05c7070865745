package host

import (
	"slices"

	"passim/api"
	"passim/archive"
	"passim/wire"
)

// ends is how many numbers of a message stand ahead of the counts of heads.
const ends = 2

// message is what a packet says.
type message struct {
	from, to int
	heads    []archive.Head
	events   []api.Event
}

// encode returns the bytes of a message.
func (m message) encode() []byte {
	numbers := []int{m.from, m.to}
	var sums []api.Digest
	for _, h := range m.heads {
		numbers, sums = append(numbers, h.Count), append(sums, h.Sum)
	}
	return slices.Concat(wire.Ints(numbers), wire.Digests(sums), archive.Encode(m.events))
}

// decode returns the message with some bytes, if it is well formed for n hosts.
func decode(b []byte, n int) (message, bool) {
	numbers, used, e := wire.GetInts(b)
	if e != api.OK || len(numbers) != ends+n {
		return message{}, false
	}
	sums, more, e := wire.GetDigests(b[used:])
	if e != api.OK || len(sums) != n {
		return message{}, false
	}
	events, e := archive.Decode(b[used+more:])
	if e != api.OK {
		return message{}, false
	}
	m := message{from: numbers[0], to: numbers[1], events: events}
	for i, sum := range sums {
		m.heads = append(m.heads, archive.Head{Count: numbers[ends+i], Sum: sum})
	}
	return m, true
}
