package resv

import (
	"caisson/api"
	"caisson/field"
)

// How many bytes the numbers of a state have.
const (
	genSize   = 4
	byteSize  = 1
	fenceSize = 2
	keySize   = 8
)

// Bytes is the state as bytes.
func (s *State) Bytes() []byte {
	if s == nil {
		return nil
	}
	holder, kind := s.Holder()
	w := field.NewWriter()
	w.Num(genSize, s.Gen())
	w.Num(byteSize, int64(holder+1))
	w.Num(byteSize, int64(kind))
	w.Num(fenceSize, s.fences())
	w.Num(byteSize, int64(s.count()))
	for nexus, key := range s.Regs() {
		w.Num(byteSize, int64(nexus))
		w.Num(keySize, int64(key))
	}
	b, _ := w.End() // no number of a state is too great for its field
	return b
}

// Load is the state that Bytes has written as b.
func Load(b []byte) (*State, api.Errno) {
	s, r := New(), field.NewReader(b)
	s.gen = uint32(r.Num(genSize))
	holder, kind := int(r.Num(byteSize))-1, int(r.Num(byteSize))
	s.setFences(r.Num(fenceSize))
	count := r.Num(byteSize)
	if isShort(r) {
		return nil, api.ErrShort
	}
	if e := s.loadKeys(r, count); e != api.OK {
		return nil, e
	}
	if !s.canHold(holder, kind) {
		return nil, api.ErrForm
	}
	if e := r.End(); e != api.OK {
		return nil, e
	}
	if kind != none {
		s.holder, s.kind = holder, kind
	}
	return s, api.OK
}

// loadKeys reads so many registrants. Whether bytes of one are missing is asked ahead of what it says, as that error is named first.
func (s *State) loadKeys(r *field.Reader, count int64) api.Errno {
	if count > api.MaxNexus {
		return api.ErrForm
	}
	ahead := -1
	for range count {
		nexus, key := int(r.Num(byteSize)), uint64(r.Num(keySize))
		if isShort(r) {
			return api.ErrShort
		}
		if nexus <= ahead || !isNexus(nexus) || key == 0 || s.fenced[nexus] {
			return api.ErrForm
		}
		s.keys[nexus], ahead = key, nexus
	}
	return api.OK
}

// canHold tells whether a reservation of that type and holder (-1: none) can be with these registrants.
func (s *State) canHold(holder, kind int) bool {
	switch {
	case holder < 0:
		return kind == none
	case !isNexus(holder) || !isType(kind):
		return false
	case isEach(kind): // whoever reserved may have left
		return s.anyRegistrant()
	}
	return s.isRegistrant(holder)
}

// fences has bit i for the nexus i that is fenced off.
func (s *State) fences() int64 {
	bits := int64(0)
	for nexus, is := range s.fenced {
		if is {
			bits |= 1 << nexus
		}
	}
	return bits
}

func (s *State) setFences(bits int64) {
	for nexus := range s.fenced {
		s.fenced[nexus] = bits>>nexus&1 == 1
	}
}

func (s *State) count() int {
	n := 0
	for range s.Regs() {
		n++
	}
	return n
}

// isShort tells whether bytes were missing: of fields as they are read here a Reader has no other error, and of bytes that are left it tells ErrForm.
func isShort(r *field.Reader) bool { return r.End() == api.ErrShort }
