package unit

import (
	"caisson/api"
	"caisson/dedup"
	"caisson/extent"
	"caisson/field"
	"caisson/resv"
)

// mostBytes is how many bytes of a state are read.
const mostBytes = 32 * api.MaxBytes

// Bytes is the state as bytes.
func (s *State) Bytes() []byte {
	if s == nil {
		return nil
	}
	w := field.NewWriter()
	w.Num(byteSize, int64(len(s.units)))
	w.Num(blocksSize, int64(s.blocks))
	for _, u := range s.units {
		u.put(w)
	}
	b, _ := w.End() // no number of a state is too great for its field, and no part too long
	return append(b, s.answers.Bytes()...)
}

// LoadState is the state that Bytes has written as b.
func LoadState(b []byte) (*State, api.Errno) {
	if len(b) > mostBytes {
		return nil, api.ErrSize
	}
	r := &rest{left: b}
	units, blocks := r.num(byteSize), r.num(blocksSize)
	s, e := New(units, blocks)
	if e != api.OK {
		return nil, api.ErrForm
	}
	for _, u := range s.units {
		if !u.load(r) {
			return nil, api.ErrForm
		}
	}
	answers, e := dedup.Load(r.left)
	if e != api.OK {
		return nil, api.ErrForm
	}
	s.answers = answers
	return s, api.OK
}

func (u *unit) put(w *field.Writer) {
	w.Bytes(imageSize, u.image.Bytes())
	w.Bytes(resvSize, u.resv.Bytes())
	for _, n := range u.notes {
		w.Num(byteSize, int64(n.count))
		for _, code := range n.codes[:n.count] {
			w.Num(byteSize, int64(code))
		}
	}
}

// load reads a unit in place of this new one, and tells whether it can be.
func (u *unit) load(r *rest) bool {
	image, e := extent.Load(r.part(imageSize))
	if e != api.OK || image.Size() != u.image.Size() {
		return false
	}
	held, e := resv.Load(r.part(resvSize))
	if e != api.OK {
		return false
	}
	u.image, u.resv = image, held
	for nexus := range u.notes {
		if !u.notes[nexus].load(r) {
			return false
		}
	}
	return true
}

func (n *notes) load(r *rest) bool {
	count := r.num(byteSize)
	if count > mostNotes {
		return false
	}
	for range count {
		code := r.num(byteSize)
		if !isFrom(resv.Preempted, code, resv.Unregistered) {
			return false
		}
		n.add(code)
	}
	return true
}

// rest is the bytes of a state that are still to be read. (A Reader of fields does not hand out what is behind them, and the answers, which are told last, have no length ahead.) Once bytes are missing none are left: then the answers can not be read, whatever else is.
type rest struct{ left []byte }

func (r *rest) num(size int) int {
	n, e := field.Get(r.left, 0, size)
	if e != api.OK {
		r.left = nil
		return 0
	}
	r.left = r.left[size:]
	return int(n)
}

// part is bytes with their length ahead.
func (r *rest) part(size int) []byte {
	p, left, _ := field.Cut(r.left, size)
	r.left = left // none with an error
	return p
}
