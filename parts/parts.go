// Package parts reads encodings part by part, up to the first error, for several layers.
package parts

import "passim/api"

// Reader is what is left of an encoding.
type Reader struct {
	rest []byte
	used int
	err  api.Errno
}

// Of returns the reader of some bytes.
func Of(b []byte) *Reader { return &Reader{rest: b} }

// Next reads a part with a function of package wire, or of a layer, and returns it, if it fits; otherwise, and behind an error, the zero value.
func Next[T any](r *Reader, get func([]byte) (T, int, api.Errno), fits func(T) bool) T {
	var zero T
	if r.err != api.OK {
		return zero
	}
	x, n, e := get(r.rest)
	if e == api.OK && !fits(x) {
		e = api.ErrForm
	}
	if r.err = e; e != api.OK {
		return zero
	}
	r.rest, r.used = r.rest[n:], r.used+n
	return x
}

// Any fits to all parts.
func Any[T any](T) bool { return true }

// Used returns how many bytes were read, and the first error.
func (r *Reader) Used() (int, api.Errno) { return r.used, r.err }

// Whole reports whether everything was read without an error.
func (r *Reader) Whole() bool { return r.err == api.OK && len(r.rest) == 0 }
