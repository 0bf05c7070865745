package lemma

import (
	"passim/api"
	"passim/transducer"
)

// What the results of the machine begin with, and what stands between lemma and class.
const (
	fromForm = "1"
	fromRule = "2"
	itself   = "3"
	slash    = "/"
)

// The states at which the machine begins and ends.
const (
	start = iota
	stop
	states
)

// builder makes a machine state by state.
type builder struct{ m transducer.Machine }

// state returns a new state.
func (b *builder) state() int {
	b.m.States++
	return b.m.States - 1
}

// arc adds an arc between two states.
func (b *builder) arc(from, to int, in, out string) {
	b.m.Arcs = append(b.m.Arcs, transducer.Arc{From: from, To: to, In: in, Out: out})
}

// silent returns the state to which an arc leads that writes and reads nothing.
func (b *builder) silent(from int, out string) int {
	to := b.state()
	b.arc(from, to, "", out)
	return to
}

// read returns the state to which arcs lead that read a text.
func (b *builder) read(from int, text string) int {
	for i := range len(text) {
		to := b.state()
		b.arc(from, to, text[i:i+1], "")
		from = to
	}
	return from
}

// copied returns the state to which arcs lead that read and write a number of letters at least.
func (b *builder) copied(from, least int) int {
	any := func(from, to int) {
		for i := range len(letters) {
			b.arc(from, to, letters[i:i+1], letters[i:i+1])
		}
	}
	for range least {
		to := b.state()
		any(from, to)
		from = to
	}
	any(from, from)
	return from
}

// form adds the runs for a form.
func (b *builder) form(f Form) {
	end := b.silent(b.read(start, f.Word), fromForm)
	b.arc(b.silent(end, f.Lemma), stop, "", slash+f.Class)
}

// rule adds the runs for a rule.
func (b *builder) rule(r Rule) {
	least := r.Least
	// The stem cannot be empty if nothing is put behind it, nor if it is the whole word.
	if r.Put == "" || r.Suffix == "" {
		least = max(least, 1)
	}
	stem := b.copied(b.silent(start, fromRule), least)
	b.arc(b.read(stem, r.Suffix), stop, "", r.Put+slash+r.Class)
}

// Machine returns a transducer from words to their analyses.
func Machine(x Lexicon) (transducer.Machine, api.Errno) {
	if e := Valid(x); e != api.OK {
		return transducer.Machine{}, e
	}
	b := &builder{transducer.Machine{States: states, Start: start, Final: []int{stop}}}
	for _, f := range x.Forms {
		b.form(f)
	}
	for _, r := range x.Rules {
		b.rule(r)
	}
	b.arc(b.copied(b.silent(start, itself), 1), stop, "", slash)
	return b.m, api.OK
}
