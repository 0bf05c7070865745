package transducer

import (
	"strings"

	"passim/api"
)

const wordBits = 64

// places is a set of numbers of bytes of a text that have been written.
type places []uint64

// shift adds the numbers of from at which a text with n bytes can be written, each greater by n.
func (p places) shift(from, can places, n int) {
	for i, w := range from {
		if w &= can[i]; w == 0 {
			continue
		}
		p[i+n/wordBits] |= w << (n % wordBits)
		if n%wordBits != 0 && i+n/wordBits+1 < len(p) {
			p[i+n/wordBits+1] |= w >> (wordBits - n%wordBits)
		}
	}
}

// writable returns, for each text that an arc writes, the places of t at which it stands.
func writable(m Machine, t string) map[string]places {
	found := map[string]places{}
	for _, a := range m.Arcs {
		if found[a.Out] != nil {
			continue
		}
		found[a.Out] = make(places, len(t)/wordBits+1)
		for i := range len(t) + 1 {
			if strings.HasPrefix(t[i:], a.Out) {
				found[a.Out][i/wordBits] |= 1 << (i % wordBits)
			}
		}
	}
	return found
}

// Accepts reports whether t is a result of a machine for s.
func Accepts(m Machine, s, t string) (bool, api.Errno) {
	if e := Valid(m); e != api.OK {
		return false, e
	}
	if len(s) > longest || len(t) > api.MaxText {
		return false, api.ErrLimit
	}
	states, _ := order(m)
	arcs, can := leaving(m), writable(m, t)
	now := make([]places, m.States)
	now[m.Start] = make(places, len(t)/wordBits+1)
	now[m.Start][0] = 1
	for at := range len(s) + 1 {
		next := make([]places, m.States)
		for _, q := range states {
			if now[q] == nil {
				continue
			}
			for _, a := range arcs[q] {
				to := next
				if a.In == "" {
					to = now
				} else if at == len(s) || a.In[0] != s[at] {
					continue
				}
				if to[a.To] == nil {
					to[a.To] = make(places, len(t)/wordBits+1)
				}
				to[a.To].shift(now[q], can[a.Out], len(a.Out))
			}
		}
		if at < len(s) {
			now = next
		}
	}
	for _, q := range m.Final {
		if now[q] != nil && now[q][len(t)/wordBits]>>(len(t)%wordBits)&1 == 1 {
			return true, api.OK
		}
	}
	return false, api.OK
}
