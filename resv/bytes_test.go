package resv_test

import (
	"bytes"
	"encoding/binary"
	"math/rand"
	"slices"
	"testing"

	"caisson/api"
	"caisson/resv"
)

// P13.4: a state, byte by byte.
func TestBytesByteByByte(t *testing.T) {
	if b := resv.New().Bytes(); !bytes.Equal(b, make([]byte, 9)) {
		t.Errorf("New: % x", b)
	}
	s := resv.New()
	for nexus, key := range map[int]uint64{15: 0x0102030405060708, 0: 1<<64 - 1, 9: 9, 8: 8} {
		s.Do(nexus, resv.Cmd{Action: resv.Register, New: key})
	}
	s.Do(8, resv.Cmd{Action: resv.Register, Key: 8})
	s.Do(9, resv.Cmd{Action: resv.Ignore})
	s.Do(15, resv.Cmd{Action: resv.Reserve, Key: 0x0102030405060708, Type: 6})
	want := []byte{0, 0, 0, 6, 16, 6, 3, 0, 2, 0, 255, 255, 255, 255, 255, 255, 255, 255, 15, 1, 2, 3, 4, 5, 6, 7, 8}
	if b := s.Bytes(); !bytes.Equal(b, want) {
		t.Errorf("Bytes: % x", b)
	}
	agree(t, load(t, want), &model{gen: 6, holder: 15, kind: 6, fenced: 3 << 8, count: -1, regs: []reg{{0, 1<<64 - 1}, {15, 0x0102030405060708}}})
}

// loadError is Load's error of b, by the plainest means: each piece is there as a whole, or short; then it is looked at; the reservation at last.
func loadError(b []byte) api.Errno {
	if len(b) < 9 {
		return api.ErrShort
	}
	holder, kind, fenced, count := int(b[4])-1, int(b[5]), binary.BigEndian.Uint16(b[6:]), int(b[8])
	b = b[9:]
	if count > 16 {
		return api.ErrForm
	}
	ahead, held := -1, false
	for range count {
		if len(b) < 9 {
			return api.ErrShort
		}
		nexus, key := int(b[0]), binary.BigEndian.Uint64(b[1:])
		if nexus > 15 || nexus <= ahead || key == 0 || fenced>>nexus&1 == 1 {
			return api.ErrForm
		}
		ahead, held, b = nexus, held || nexus == holder, b[9:]
	}
	switch {
	case holder == -1 && kind != 0, holder > 15, holder >= 0 && !slices.Contains(types, kind):
		return api.ErrForm
	case holder >= 0 && !held && (kind < 7 || count == 0):
		return api.ErrForm
	case len(b) > 0:
		return api.ErrForm
	}
	return api.OK
}

// P13.4: what can not be, at its bounds and beyond them.
func TestLoadBounds(t *testing.T) {
	two := []reg{{3, 1}, {15, 2}}
	var all []reg
	for nexus := range 16 {
		all = append(all, reg{nexus, 7})
	}
	for i, c := range []struct {
		m    model
		want api.Errno
	}{
		{model{gen: 1<<32 - 1, holder: -1, fenced: 1<<16 - 1, count: -1}, api.OK},
		{model{holder: -1, count: -1, regs: all}, api.OK},
		{model{holder: 15, kind: 8, count: -1, regs: all}, api.OK},
		{model{holder: -1, count: -1, regs: append(slices.Clone(all), reg{16, 7})}, api.ErrForm},
		{model{holder: -1, count: 17, regs: all}, api.ErrForm},
		{model{holder: -1, count: 255, regs: all}, api.ErrForm},
		{model{holder: -1, count: -1, regs: []reg{{16, 7}}}, api.ErrForm},
		{model{holder: -1, count: -1, regs: []reg{{255, 7}}}, api.ErrForm},
		{model{holder: -1, count: -1, regs: []reg{{3, 1}, {3, 1}}}, api.ErrForm},
		{model{holder: -1, count: -1, regs: []reg{{3, 1}, {2, 1}}}, api.ErrForm},
		{model{holder: -1, count: -1, regs: []reg{{0, 1}, {0, 1}}}, api.ErrForm},
		{model{holder: -1, count: -1, regs: []reg{{3, 0}}}, api.ErrForm},
		{model{holder: -1, count: -1, regs: []reg{{3, 1 << 63}}}, api.OK},
		{model{holder: -1, count: -1, regs: []reg{{3, 1}, {15, 0}}}, api.ErrForm},
		{model{holder: -1, fenced: 1 << 3, count: -1, regs: two}, api.ErrForm},
		{model{holder: -1, fenced: 1 << 15, count: -1, regs: two}, api.ErrForm},
		{model{holder: -1, fenced: 1<<16 - 1 - 1<<3 - 1<<15, count: -1, regs: two}, api.OK},
		{model{holder: -1, fenced: 1 << 0, count: -1, regs: []reg{{0, 1}}}, api.ErrForm},
		{model{holder: -1, count: 1, regs: two}, api.ErrForm}, // bytes are left
		{model{holder: -1, count: 0, regs: two}, api.ErrForm},
		{model{holder: -1, count: 3, regs: two}, api.ErrShort},
	} {
		s, e := resv.Load(c.m.bytes())
		if e != c.want || e != api.OK && s != nil {
			t.Error(i, e, "not", c.want)
		} else if e == api.OK {
			agree(t, s, &c.m)
		}
	}
}

// P13.4, P13.6: each holder with each type, where there is nobody, another one, or the holder.
func TestLoadOfHoldersAndTypes(t *testing.T) {
	for holder := -1; holder < 255; holder++ {
		for kind := range 256 {
			for _, regs := range [][]reg{nil, {{3, 1}}, {{3, 1}, {15, 2}}} {
				m := &model{holder: holder, kind: kind, count: -1, regs: regs}
				is := slices.ContainsFunc(regs, func(x reg) bool { return x.nexus == holder })
				want := api.ErrForm
				switch {
				case holder == -1 && kind == 0:
					want = api.OK
				case holder >= 0 && holder < 16 && is && slices.Contains(types, kind):
					want = api.OK
				case holder >= 0 && holder < 16 && (kind == 7 || kind == 8) && len(regs) > 0:
					want = api.OK
				}
				s, e := resv.Load(m.bytes())
				if e != want || e != api.OK && s != nil {
					t.Fatal(holder, kind, regs, e, "not", want)
				}
				if e == api.OK {
					holds(t, s, holder, kind)
					follows(t, s)
				}
			}
		}
	}
}

// P13.4, P1: cut at each place: missing bytes of the head, or of a registrant, are told ahead of what these say; what stood ahead of them is told first. The reservation is looked at when all registrants are there.
func TestLoadOfCutBytes(t *testing.T) {
	const head, one = 9, 9
	for i, c := range []struct {
		m    model
		need int // so many bytes are read to tell it
		want api.Errno
	}{
		{model{holder: 3, kind: 5, count: -1, regs: []reg{{3, 1}, {15, 2}}}, head + 2*one, api.OK},
		{model{holder: -1, count: 17, regs: []reg{{3, 1}}}, head, api.ErrForm},
		{model{holder: -1, count: 255, regs: []reg{{3, 0}}}, head, api.ErrForm},
		{model{holder: -1, count: 16, regs: []reg{{3, 1}}}, head + 2*one, api.OK},
		{model{holder: -1, count: 2, regs: []reg{{16, 1}, {17, 2}}}, head + one, api.ErrForm},
		{model{holder: -1, count: 2, regs: []reg{{3, 0}, {4, 2}}}, head + one, api.ErrForm},
		{model{holder: -1, count: 2, fenced: 8, regs: []reg{{3, 1}, {4, 2}}}, head + one, api.ErrForm},
		{model{holder: -1, count: 3, regs: []reg{{3, 1}, {3, 2}, {4, 1}}}, head + 2*one, api.ErrForm},
		{model{holder: -1, kind: 5, count: 2, regs: []reg{{3, 1}, {4, 2}}}, head + 2*one, api.ErrForm},
		{model{holder: 3, kind: 4, count: 2, regs: []reg{{3, 1}, {4, 2}}}, head + 2*one, api.ErrForm},
		{model{holder: 2, kind: 5, count: 2, regs: []reg{{3, 1}, {4, 2}}}, head + 2*one, api.ErrForm},
		{model{holder: 2, kind: 7, count: 0}, head, api.ErrForm},
	} {
		b := c.m.bytes()
		for n := range len(b) + 1 {
			want := c.want
			if n < c.need {
				want = api.ErrShort
			}
			if s, e := resv.Load(b[:n]); e != want || e != api.OK && s != nil {
				t.Fatal(i, "cut to", n, e, "not", want)
			}
		}
	}
	if s, e := resv.Load(nil); e != api.ErrShort || s != nil {
		t.Error("nil", e)
	}
}

// P13.4: longer than a state.
func TestLoadOfLongerBytes(t *testing.T) {
	for _, m := range []*model{empty(), {holder: 3, kind: 5, count: -1, regs: []reg{{3, 1}, {15, 2}}}} {
		b := m.bytes()
		for _, more := range [][]byte{{0}, {1, 2}, make([]byte, 9), b, make([]byte, 100000)} {
			if s, e := resv.Load(slices.Concat(b, more)); e != api.ErrForm || s != nil {
				t.Error("longer", len(more), e)
			}
		}
	}
}

// P13.4, P13.8, P7: whatever bytes are read as a state are just those that it writes; of others the error is the first one.
func TestLoadOfChangedBytes(t *testing.T) {
	rnd := rand.New(rand.NewSource(5))
	all := states()
	told := map[api.Errno]int{}
	for range 40000 {
		b := all[rnd.Intn(len(all))].bytes()
		for range rnd.Intn(3) {
			if i := rnd.Intn(len(b)); rnd.Intn(2) == 0 {
				b[i] ^= byte(1 << rnd.Intn(8))
			} else {
				b[i] = byte(rnd.Intn(18))
			}
		}
		if rnd.Intn(4) == 0 {
			b = b[:rnd.Intn(len(b)+1)]
		}
		s, e := resv.Load(b)
		told[e]++
		if want := loadError(b); e != want {
			t.Fatalf("%v and not %v: % x", e, want, b)
		}
		if e == api.OK {
			if !bytes.Equal(s.Bytes(), b) {
				t.Fatalf("% x", b)
			}
			follows(t, s)
		} else if s != nil {
			t.Fatal("a state beside", e)
		}
	}
	for _, e := range []api.Errno{api.OK, api.ErrShort, api.ErrForm} {
		if told[e] < 2000 {
			t.Error("too few", e, told[e])
		}
	}
}
