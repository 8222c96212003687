package pdu

import (
	"slices"

	"caisson/api"
)

// mostWaiting is how many bytes may wait: more than any letter has.
const mostWaiting = 2 * api.MaxBytes

// Reader makes letters of bytes as they come.
type Reader struct {
	opts    Opts
	waiting []byte
	dead    bool
}

// New reads by o; no bytes have come yet.
func New(o Opts) (*Reader, api.Errno) {
	if !o.canBe() {
		return nil, api.ErrArg
	}
	return &Reader{opts: o}, api.OK
}

// Feed lets b wait behind what waits already.
func (r *Reader) Feed(b []byte) api.Errno {
	if r == nil {
		return api.ErrNil
	}
	if r.dead {
		return api.ErrDead
	}
	if len(r.waiting)+len(b) > mostWaiting {
		r.die()
		return api.ErrFull
	}
	r.waiting = append(r.waiting, b...)
	return api.OK
}

// Next is the next letter, and what is wrong with it; false, if it is not there yet.
func (r *Reader) Next() (Pdu, api.Errno, bool) {
	if r == nil {
		return Pdu{}, api.ErrNil, true
	}
	if r.dead {
		return Pdu{}, api.ErrDead, true
	}
	l, fault, whole := r.opts.walk(r.waiting)
	if !whole && fault == api.OK {
		return Pdu{}, api.OK, false
	}
	if !whole { // nobody can tell where the next letter begins
		r.die()
		return Pdu{}, fault, true
	}
	p := l.pdu()
	if fault == api.OK {
		p.Data = slices.Clone(l[body][:l.count()])
	}
	r.waiting = r.waiting[l.bytes():]
	return p, fault, true
}

// Set is what is agreed on for all letters that were not told yet.
func (r *Reader) Set(o Opts) api.Errno {
	if r == nil {
		return api.ErrNil
	}
	if r.dead {
		return api.ErrDead
	}
	if !o.canBe() {
		return api.ErrArg
	}
	r.opts = o
	return api.OK
}

// Left is how many bytes wait.
func (r *Reader) Left() int {
	if r == nil {
		return 0
	}
	return len(r.waiting)
}

// Dead tells whether nothing is read any more.
func (r *Reader) Dead() bool { return r != nil && r.dead }

// die lets go of the bytes: nobody reads them any more.
func (r *Reader) die() { r.waiting, r.dead = nil, true }
