package unit_test

import (
	"bytes"
	"encoding/binary"
	"math/rand"
	"slices"
	"testing"

	"caisson/api"
	"caisson/dedup"
	"caisson/extent"
	"caisson/resv"
	"caisson/unit"
)

// plain is a unit of so many blocks with nothing in it.
func plain(blocks int) place {
	return place{image: binary.BigEndian.AppendUint32(nil, uint32(blocks)<<16), resv: make([]byte, 9)}
}

// P14.4: a state, byte by byte.
func TestBytesByteByByte(t *testing.T) {
	s := newState(t, 2, 256)
	want := []byte{2, 1, 0}
	for range 2 {
		want = slices.Concat(want, []byte{0, 0, 0, 4, 1, 0, 0, 0}, []byte{0, 9}, make([]byte, 9), make([]byte, 16))
	}
	want = append(want, make([]byte, 144)...)
	if b := s.Bytes(); !bytes.Equal(b, want) {
		t.Errorf("New: % x", b)
	}
	s = newState(t, 1, 8)
	do(t, s, write(0, 1, 0, 6), good)
	do(t, s, pr(1, 1, 0, resv.Cmd{New: 5}), good)
	do(t, s, pr(2, 1, 0, resv.Cmd{New: 6}), good)
	do(t, s, pr(1, 2, 0, resv.Cmd{Action: resv.Reserve, Key: 5, Type: 6}), good)
	do(t, s, pr(1, 3, 0, resv.Cmd{Action: resv.Release, Key: 5, Type: 6}), good)
	do(t, s, pr(1, 4, 0, resv.Cmd{Action: resv.Preempt, Key: 5, New: 6, Type: 6}), good)
	answer := func(seq byte) []byte { return []byte{0, 0, 0, 0, 0, 0, 0, seq, 0, 6, 0, 0, 0, 0, 0, 0} }
	floor := make([]byte, 8)
	want = slices.Concat([]byte{1, 0, 8}, []byte{0, 0, 0, 70, 0, 8, 0, 1, 0, 6}, full(1),
		[]byte{0, 18, 0, 0, 0, 3, 0, 0, 0, 4, 1, 1, 0, 0, 0, 0, 0, 0, 0, 5},
		[]byte{0, 0, 2, 4, 5}, make([]byte, 13),
		[]byte{1}, floor, answer(1), []byte{4}, floor, answer(1), answer(2), answer(3), answer(4), []byte{1}, floor, answer(1), make([]byte, 13*9))
	if b := s.Bytes(); !bytes.Equal(b, want) {
		t.Errorf("Bytes: % x", b)
	}
	x := load(t, want)
	if x.Units() != 1 || x.Blocks() != 8 || !x.Pending(2, 0) {
		t.Error("LoadState")
	}
	do(t, x, pop(2, 2, 0), told(4))
	do(t, x, pop(2, 3, 0), told(5))
	do(t, x, write(2, 4, 0, 1), conflict)
}

// P14.4: what can not be, at its bounds and beyond them.
func TestLoadStateBounds(t *testing.T) {
	with := func(f func(p *place)) []place {
		p := plain(8)
		f(&p)
		return []place{p}
	}
	none := dedup.New().Bytes()
	for i, x := range []struct {
		b    []byte
		want api.Errno
	}{
		{stateBytes(1, 8, []place{plain(8)}, none), api.OK},
		{stateBytes(3, 8, []place{plain(8), plain(8), plain(8)}, none), api.OK},
		{stateBytes(1, 1, []place{plain(1)}, none), api.OK},
		{stateBytes(1, 256, []place{plain(256)}, none), api.OK},
		{stateBytes(0, 8, nil, none), api.ErrForm},
		{stateBytes(4, 8, []place{plain(8), plain(8), plain(8), plain(8)}, none), api.ErrForm},
		{stateBytes(255, 8, []place{plain(8)}, none), api.ErrForm},
		{stateBytes(1, 0, []place{plain(0)}, none), api.ErrForm},
		{stateBytes(1, 257, []place{plain(257)}, none), api.ErrForm},
		{stateBytes(1, 65535, []place{plain(8)}, none), api.ErrForm},
		{stateBytes(1, 8, []place{plain(7)}, none), api.ErrForm},
		{stateBytes(1, 8, []place{plain(9)}, none), api.ErrForm},
		{stateBytes(2, 8, []place{plain(8), plain(256)}, none), api.ErrForm},
		{stateBytes(1, 8, []place{plain(8), plain(8)}, none), api.ErrForm},
		{stateBytes(2, 8, []place{plain(8)}, none), api.ErrForm},
		{stateBytes(1, 8, with(func(p *place) { p.image = p.image[:3] }), none), api.ErrForm},
		{stateBytes(1, 8, with(func(p *place) { p.image = nil }), none), api.ErrForm},
		{stateBytes(1, 8, with(func(p *place) { p.image = append(p.image, 0) }), none), api.ErrForm},
		{stateBytes(1, 8, with(func(p *place) { p.image = make([]byte, 65536) }), none), api.ErrForm},
		{stateBytes(1, 8, with(func(p *place) { p.image = make([]byte, 65537) }), none), api.ErrForm},
		{stateBytes(1, 8, with(func(p *place) { p.resv = p.resv[:8] }), none), api.ErrForm},
		{stateBytes(1, 8, with(func(p *place) { p.resv = nil }), none), api.ErrForm},
		{stateBytes(1, 8, with(func(p *place) { p.resv = make([]byte, 10) }), none), api.ErrForm},
		{stateBytes(1, 8, with(func(p *place) { p.resv = []byte{0, 0, 0, 0, 1, 7, 0, 0, 0} }), none), api.ErrForm},
		{stateBytes(1, 8, with(func(p *place) { p.notes[0] = []byte{3, 4, 5, 3, 4, 5, 3, 4} }), none), api.OK},
		{stateBytes(1, 8, with(func(p *place) { p.notes[15] = []byte{5, 5, 5, 5, 5, 5, 5, 5} }), none), api.OK},
		{stateBytes(1, 8, with(func(p *place) { p.notes[0] = []byte{3, 4, 5, 3, 4, 5, 3, 4, 5} }), none), api.ErrForm},
		{stateBytes(1, 8, with(func(p *place) { p.notes[15] = bytes.Repeat([]byte{4}, 255) }), none), api.ErrForm},
		{stateBytes(1, 8, with(func(p *place) { p.notes[7] = []byte{2} }), none), api.ErrForm},
		{stateBytes(1, 8, with(func(p *place) { p.notes[7] = []byte{3, 6} }), none), api.ErrForm},
		{stateBytes(1, 8, with(func(p *place) { p.notes[7] = []byte{0} }), none), api.ErrForm},
		{stateBytes(1, 8, with(func(p *place) { p.notes[7] = []byte{255} }), none), api.ErrForm},
		{stateBytes(1, 8, []place{plain(8)}, nil), api.ErrForm},
		{stateBytes(1, 8, []place{plain(8)}, none[1:]), api.ErrForm},
		{stateBytes(1, 8, []place{plain(8)}, append(slices.Clone(none), 0)), api.ErrForm},
		{stateBytes(1, 8, []place{plain(8)}, append([]byte{65}, none[1:]...)), api.ErrForm},
		{nil, api.ErrForm}, {[]byte{}, api.ErrForm}, {[]byte{1}, api.ErrForm}, {[]byte{1, 0}, api.ErrForm}, {[]byte{1, 0, 8}, api.ErrForm},
	} {
		s, e := unit.LoadState(x.b)
		if e != x.want || e != api.OK && s != nil {
			t.Error(i, e, "not", x.want)
		} else if e == api.OK && !bytes.Equal(s.Bytes(), x.b) {
			t.Error(i, "Bytes")
		}
	}
}

// P14.4: more than 32 MaxBytes bytes, ahead of anything else.
func TestLoadStateOfTooManyBytes(t *testing.T) {
	for n, want := range map[int]api.Errno{32 * api.MaxBytes: api.ErrForm, 32*api.MaxBytes + 1: api.ErrSize, 32*api.MaxBytes - 1: api.ErrForm, 40 * api.MaxBytes: api.ErrSize} {
		b := stateBytes(1, 8, []place{plain(8)}, dedup.New().Bytes())
		if s, e := unit.LoadState(append(b, make([]byte, n-len(b))...)); e != want || s != nil {
			t.Error(n, e)
		}
		if s, e := unit.LoadState(make([]byte, n)); e != want || s != nil {
			t.Error(n, e)
		}
	}
}

// P14.4: answers that dedup's Load refuses for their size are not in the form of a state; as many as it reads are.
func TestLoadStateOfManyAnswers(t *testing.T) {
	for last, want := range map[int]api.Errno{3968: api.OK, 3969: api.ErrForm} {
		d := dedup.New()
		for n := range 254 {
			d.Put(n/64, int64(1+n), api.Reply{Data: make([]byte, 4096)})
		}
		d.Put(9, 1, api.Reply{Data: make([]byte, last)})
		b := stateBytes(1, 8, []place{plain(8)}, d.Bytes())
		s, e := unit.LoadState(b)
		if e != want || (e == api.OK) != (s != nil) {
			t.Fatal(last, e)
		}
		if e == api.OK {
			refused(t, s, pop(0, 1, 0), api.Reply{Data: make([]byte, 4096)})
		}
	}
}

// P14.4: the greatest state that commands make is read again.
func TestGreatestState(t *testing.T) {
	s := newState(t, 3, 256)
	var seq int64
	for lun := range 3 {
		for lba := 0; lba < 256; lba += 32 {
			seq++
			c := unit.Cmd{Kind: unit.Write, Nexus: 1, Seq: seq, Lun: lun}
			for i := range 32 {
				c.Changes = append(c.Changes, api.Change{Lba: lba + i, Data: full(byte(lun + 1))})
			}
			do(t, s, c, good)
		}
		for nexus := range 16 {
			do(t, s, pr(nexus, int64(100+lun), lun, resv.Cmd{New: 1 << 63}), good)
		}
		for i := range 9 {
			do(t, s, pr(0, int64(1000+100*lun+2*i), lun, resv.Cmd{Action: resv.Reserve, Key: 1 << 63, Type: 8}), good)
			do(t, s, pr(0, int64(1000+100*lun+2*i+1), lun, resv.Cmd{Action: resv.Release, Key: 1 << 63, Type: 8}), good)
		}
	}
	for nexus := range 16 {
		for n := range int64(70) {
			do(t, s, pop(nexus, 5000+n, 9), noUnit)
		}
	}
	x := load(t, s.Bytes())
	if !bytes.Equal(x.Bytes(), s.Bytes()) || x.Image(2).Used() != 256 || !x.Pending(15, 2) {
		t.Error("LoadState")
	}
}

// sample is a state with something of everything.
func sample(t *testing.T) *unit.State {
	t.Helper()
	s := registered(t)
	do(t, s, write(1, 2, 0, 3), good)
	do(t, s, write(3, highest, 1, 0, 7), good)
	pile(t, s, 2, 3)
	do(t, s, pr(3, 5, 1, resv.Cmd{New: 1 << 40}), good)
	do(t, s, pr(3, 6, 1, resv.Cmd{Action: resv.Reserve, Key: 1 << 40, Type: 7}), good)
	do(t, s, pr(2, 40, 0, resv.Cmd{Action: resv.Preempt, Key: 22, New: 11, Type: 3}), good)
	return s
}

// P14.4: cut at each place, and longer.
func TestLoadStateOfCutBytes(t *testing.T) {
	b := sample(t).Bytes()
	for n := range b {
		if s, e := unit.LoadState(b[:n]); e != api.ErrForm || s != nil {
			t.Error("cut to", n, e)
		}
	}
	for _, more := range [][]byte{{0}, {1, 2}, make([]byte, 9), b} {
		if s, e := unit.LoadState(slices.Concat(b, more)); e != api.ErrForm || s != nil {
			t.Error("longer", len(more), e)
		}
	}
}

// canLoad tells by the plainest means whether b is a state's bytes.
func canLoad(b []byte) bool {
	if len(b) < 3 || b[0] < 1 || b[0] > 3 {
		return false
	}
	units, blocks := int(b[0]), int(b[1])<<8|int(b[2])
	b = b[3:]
	for range units {
		if len(b) < 4 || int(binary.BigEndian.Uint32(b)) > len(b)-4 {
			return false
		}
		n := 4 + int(binary.BigEndian.Uint32(b))
		m, e := extent.Load(b[4:n])
		if e != api.OK || m.Size() != blocks {
			return false
		}
		b = b[n:]
		if len(b) < 2 || int(binary.BigEndian.Uint16(b)) > len(b)-2 {
			return false
		}
		n = 2 + int(binary.BigEndian.Uint16(b))
		if _, e := resv.Load(b[2:n]); e != api.OK {
			return false
		}
		b = b[n:]
		for range 16 {
			if len(b) < 1 || b[0] > 8 || len(b)-1 < int(b[0]) {
				return false
			}
			for _, code := range b[1 : 1+b[0]] {
				if code < 3 || code > 5 {
					return false
				}
			}
			b = b[1+b[0]:]
		}
	}
	_, e := dedup.Load(b)
	return e == api.OK
}

// P14.4, P7: whatever bytes are read as a state are just those that it writes; others are refused.
func TestLoadStateOfChangedBytes(t *testing.T) {
	rnd := rand.New(rand.NewSource(2))
	from := sample(t).Bytes()
	read := 0
	for range 20000 {
		b := slices.Clone(from)
		for range 1 + rnd.Intn(2) {
			if i := rnd.Intn(len(b)); rnd.Intn(2) == 0 {
				b[i] ^= byte(1 << rnd.Intn(8))
			} else {
				b[i] = byte(rnd.Intn(10))
			}
		}
		s, e := unit.LoadState(b)
		if can := canLoad(b); can != (e == api.OK) || e != api.OK && e != api.ErrForm || can != (s != nil) {
			t.Fatalf("%v %v: % x", e, can, b)
		}
		if e == api.OK {
			read++
			if !bytes.Equal(s.Bytes(), b) {
				t.Fatalf("% x", b)
			}
		}
	}
	if read < 1000 || read > 19000 {
		t.Error("read", read)
	}
}

// P14.7: states of any notes go on as they were: those that are told first stand first.
func TestLoadedNotesGoOn(t *testing.T) {
	p := plain(8)
	p.notes[6] = []byte{5, 3, 4, 4, 5, 3, 3, 5}
	s := load(t, stateBytes(1, 8, []place{p}, dedup.New().Bytes()))
	for i, code := range p.notes[6] {
		do(t, s, write(6, int64(1+i), 0, 1), told(int(code)))
		s = load(t, s.Bytes())
	}
	do(t, s, write(6, 20, 0, 1), good)
}
