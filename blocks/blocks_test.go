package blocks_test

import (
	"bytes"
	"math"
	"slices"
	"testing"

	"caisson/api"
	"caisson/blocks"
	"caisson/disk"
	"caisson/extent"
)

const highest = 1 << 60

func newDisk(t *testing.T, sectors int) *disk.Disk {
	t.Helper()
	d, e := disk.New(sectors)
	ok(t, e)
	return d
}

func opened(t *testing.T, d *disk.Disk, from, n int) *blocks.Store {
	t.Helper()
	s, e := blocks.Open(d, from, n)
	if e != api.OK || s == nil {
		t.Fatalf("Open from %d, of %d blocks: %v", from, n, e)
	}
	return s
}

// newStore is a store of n blocks on a disk that has just its sectors.
func newStore(t *testing.T, n int) (*disk.Disk, *blocks.Store) {
	t.Helper()
	d := newDisk(t, blocks.Need(n))
	return d, opened(t, d, 0, n)
}

func newImage(t *testing.T, n int) *extent.Image {
	t.Helper()
	m, e := extent.New(n)
	ok(t, e)
	return m
}

func ok(t *testing.T, e api.Errno) {
	t.Helper()
	if e != api.OK {
		t.Fatal("an error:", e)
	}
}

// full is n blocks all of c.
func full(n int, c byte) []byte { return bytes.Repeat([]byte{c}, n*api.Block) }

func put(lba int, c byte) api.Change { return api.Change{Lba: lba, Data: full(1, c)} }

func gone(lba int) api.Change { return api.Change{Lba: lba} }

// has is said of a store whose number is n, and whose blocks begin with these bytes; -1 is one that is not there.
func has(t *testing.T, s *blocks.Store, n int64, want ...int) {
	t.Helper()
	m := s.Image()
	var l []int
	for lba := range m.Size() {
		b, e := m.Read(lba, 1)
		ok(t, e)
		if !m.Has(lba) {
			l = append(l, -1)
		} else if bytes.Equal(b, full(1, b[0])) {
			l = append(l, int(b[0]))
		} else {
			l = append(l, -2)
		}
	}
	if s.Applied() != n || !slices.Equal(l, want) {
		t.Fatalf("up to %d: %v, not up to %d: %v", s.Applied(), l, n, want)
	}
}

// P6.1: Need, at its edges and beyond them.
func TestNeed(t *testing.T) {
	last := 1
	for n := 1; n <= api.MaxBlocks; n++ {
		need := blocks.Need(n)
		if need < last || need > 24+n {
			t.Errorf("Need(%d) = %d, behind %d", n, need, last)
		}
		last = need
	}
	for _, n := range []int{0, -1, api.MaxBlocks + 1, math.MaxInt, math.MinInt} {
		if need := blocks.Need(n); need != 0 {
			t.Errorf("Need(%d) = %d", n, need)
		}
	}
	if blocks.Most != 64 {
		t.Error("Most", blocks.Most)
	}
}

// P6.1: where a store can be, and where it can not.
func TestOpenAtTheEdges(t *testing.T) {
	need := blocks.Need(4)
	d := newDisk(t, need+2)
	for from := range 3 {
		s := opened(t, d, from, 4)
		if s.Applied() != 0 || s.Dead() || s.Image().Size() != 4 || s.Image().Used() != 0 {
			t.Error("an empty store", s.Applied(), s.Image().Used())
		}
	}
	for _, c := range []struct{ from, blocks int }{
		{3, 4}, {-1, 4}, {math.MaxInt, 4}, {math.MinInt, 4}, {need + 2, 4}, {math.MaxInt - need + 1, 4},
		{0, 0}, {0, -1}, {0, 257}, {0, math.MaxInt}, {0, math.MinInt}, {0, 256}, {-1, 0},
	} {
		if s, e := blocks.Open(d, c.from, c.blocks); s != nil || e != api.ErrArg {
			t.Errorf("Open from %d, of %d blocks: %v", c.from, c.blocks, e)
		}
	}
	if s, e := blocks.Open(nil, -1, 0); s != nil || e != api.ErrNil {
		t.Error("Open on no disk", e)
	}
	short := newDisk(t, need-1)
	if s, e := blocks.Open(short, 0, 4); s != nil || e != api.ErrArg {
		t.Error("Open on a disk too short", e)
	}
}

// P6.1, P1: all calls of nil, and of a store that Open did not make.
func TestNil(t *testing.T) {
	var s *blocks.Store
	if s.Image() != nil || s.Applied() != 0 || s.Dead() {
		t.Error("nil has something")
	}
	if e := s.Apply(-1, nil); e != api.ErrNil {
		t.Error("Apply", e)
	}
	if e := s.Replace(-1, nil); e != api.ErrNil {
		t.Error("Replace", e)
	}
	for range 2 {
		var none blocks.Store
		if none.Image() != nil || none.Applied() != 0 || none.Dead() {
			t.Error("none has something")
		}
		if e := none.Apply(1, []api.Change{put(0, 1)}); e == api.OK {
			t.Error("Apply", e)
		}
		if e := none.Replace(1, &extent.Image{}); e == api.OK {
			t.Error("Replace", e)
		}
	}
}

// P6.2: the chapter's example.
func TestExample(t *testing.T) {
	_, s := newStore(t, 4)
	ok(t, s.Apply(2, []api.Change{put(2, 2)}))
	ok(t, s.Apply(5, []api.Change{put(1, 1), gone(2)}))
	has(t, s, 5, -1, 1, -1, -1)
	if e := s.Apply(5, []api.Change{put(3, 3)}); e != api.ErrArg {
		t.Error("Apply", e)
	}
	has(t, s, 5, -1, 1, -1, -1)
}

// P6.2: changes are done one behind the other, and all of them are safe.
func TestApply(t *testing.T) {
	d, s := newStore(t, 5)
	ok(t, s.Apply(1, []api.Change{put(0, 1), put(0, 2), put(1, 3), gone(1), gone(2), put(2, 0), put(4, 9)}))
	has(t, s, 1, 2, -1, 0, -1, 9)
	ok(t, s.Apply(9, nil))
	has(t, s, 9, 2, -1, 0, -1, 9)
	ok(t, s.Apply(10, []api.Change{gone(0), {Lba: 4, Data: []byte{}}}))
	has(t, s, 10, -1, -1, 0, -1, -1)
	if d.Pending() != 0 {
		t.Error("not all is safe:", d.Pending())
	}
	d.Crash(nil)
	has(t, opened(t, d, 0, 5), 10, -1, -1, 0, -1, -1)
}

// P6.2: the numbers that can be.
func TestNumbers(t *testing.T) {
	_, s := newStore(t, 1)
	wrong := func(l ...int64) {
		t.Helper()
		for _, n := range l {
			if e := s.Apply(n, []api.Change{put(0, 7)}); e != api.ErrArg {
				t.Errorf("Apply(%d): %v", n, e)
			}
			if e := s.Replace(n, newImage(t, 1)); e != api.ErrArg {
				t.Errorf("Replace(%d): %v", n, e)
			}
		}
	}
	wrong(0, -1, math.MinInt64, highest+1, math.MaxInt64)
	has(t, s, 0, -1)
	ok(t, s.Apply(1, []api.Change{put(0, 1)}))
	wrong(0, 1, -1)
	ok(t, s.Replace(highest-1, newImage(t, 1)))
	wrong(1, 2, highest-1, highest+1)
	ok(t, s.Apply(highest, []api.Change{put(0, 2)}))
	wrong(1, highest, highest+1, math.MaxInt64)
	has(t, s, highest, 2)
	if s.Dead() {
		t.Error("a refused call makes it dead")
	}
}

// P6.2: changes that can not be, and too many of them; the first error named is answered.
func TestChangesThatCanNotBe(t *testing.T) {
	d, s := newStore(t, 256)
	var most []api.Change
	for i := range blocks.Most {
		most = append(most, put(i*4, byte(i)))
	}
	ok(t, s.Apply(1, most))
	before, image := d.Now(), s.Image()
	more := append(slices.Clone(most), gone(1))
	bad := append(slices.Clone(more), gone(256))
	for _, c := range []struct {
		n    int64
		l    []api.Change
		want api.Errno
	}{
		{2, more, api.ErrSize}, {1, more, api.ErrArg}, {2, bad, api.ErrArg}, {highest + 1, bad, api.ErrArg},
		{2, []api.Change{put(0, 9), gone(-1)}, api.ErrArg}, {2, []api.Change{put(256, 1)}, api.ErrArg}, {2, []api.Change{gone(math.MaxInt)}, api.ErrArg},
		{2, []api.Change{{Lba: 1, Data: make([]byte, 63)}}, api.ErrArg}, {2, []api.Change{{Lba: 1, Data: make([]byte, 128)}}, api.ErrArg},
	} {
		if e := s.Apply(c.n, c.l); e != c.want {
			t.Errorf("Apply(%d, %d changes): %v, not %v", c.n, len(c.l), e, c.want)
		}
		if s.Applied() != 1 || !s.Image().Same(image) || s.Dead() || !bytes.Equal(d.Now(), before) || d.Pending() != 0 {
			t.Fatal("a refused Apply changed something")
		}
	}
	ok(t, s.Apply(2, most[:0:0]))
}

// P6.2: Replace, of the greatest store, and what it refuses.
func TestReplace(t *testing.T) {
	d, s := newStore(t, 256)
	m := newImage(t, 256)
	for lba := range 256 {
		ok(t, m.Write(lba, full(1, byte(lba))))
	}
	ok(t, s.Apply(3, []api.Change{put(5, 50), put(255, 50)}))
	ok(t, s.Replace(4, m))
	if s.Applied() != 4 || !s.Image().Same(m) || d.Pending() != 0 {
		t.Fatal("Replace", s.Applied())
	}
	for _, c := range []struct {
		n    int64
		m    *extent.Image
		want api.Errno
	}{
		{4, nil, api.ErrNil}, {4, m, api.ErrArg}, {5, newImage(t, 255), api.ErrArg}, {5, newImage(t, 1), api.ErrArg}, {5, &extent.Image{}, api.ErrArg}, {highest + 1, m, api.ErrArg},
	} {
		if e := s.Replace(c.n, c.m); e != c.want || s.Dead() || s.Applied() != 4 || !s.Image().Same(m) {
			t.Errorf("Replace(%d, of %d): %v, not %v", c.n, c.m.Size(), e, c.want)
		}
	}
	d.Crash(nil)
	s = opened(t, d, 0, 256)
	if s.Applied() != 4 || !s.Image().Same(m) {
		t.Error("opened behind Replace", s.Applied())
	}
	ok(t, s.Replace(6, m)) // the same one: only the number changes
	ok(t, s.Replace(7, newImage(t, 256)))
	if s = opened(t, d, 0, 256); s.Applied() != 7 || s.Image().Used() != 0 {
		t.Error("opened behind Replace by nothing", s.Applied(), s.Image().Used())
	}
}

// P6.2: an error of the disk is answered, and the store is dead; it has what it had.
func TestDead(t *testing.T) {
	calls := []func(s *blocks.Store, n int64) api.Errno{
		func(s *blocks.Store, n int64) api.Errno { return s.Apply(n, []api.Change{put(1, 7)}) },
		func(s *blocks.Store, n int64) api.Errno { return s.Apply(n, []api.Change{gone(0)}) },
		func(s *blocks.Store, n int64) api.Errno { return s.Apply(n, nil) },
		func(s *blocks.Store, n int64) api.Errno {
			m, _ := extent.New(2)
			return s.Replace(n, m)
		},
	}
	for i, call := range calls {
		for _, already := range []bool{false, true} {
			d, s := newStore(t, 2)
			ok(t, s.Apply(1, []api.Change{put(0, 5)}))
			d.Fail()
			want := api.ErrFlush
			if already {
				d.Flush()
				want = api.ErrDead
			}
			if e := call(s, 1); e != api.ErrArg || s.Dead() {
				t.Error("refused ahead of the disk", e)
			}
			if e := call(s, 2); e != want || !s.Dead() {
				t.Errorf("call %d: %v, not %v", i, e, want)
			}
			has(t, s, 1, 5, -1)
			for range 2 { // also when the disk works again
				if e := call(s, 3); e != api.ErrDead {
					t.Errorf("call %d of a dead store: %v", i, e)
				}
				if s.Apply(-1, []api.Change{gone(9)}) != api.ErrDead || s.Replace(-1, nil) != api.ErrDead {
					t.Error("another error of a dead store")
				}
				has(t, s, 1, 5, -1)
				d.Crash(nil)
			}
			has(t, opened(t, d, 0, 2), 1, 5, -1)
		}
	}
}

// P6.1: an error of the disk.
func TestOpenOnADeadDisk(t *testing.T) {
	d, s := newStore(t, 2)
	d.Fail()
	if e := s.Apply(1, nil); e != api.ErrFlush {
		t.Fatal("Apply", e)
	}
	if s, e := blocks.Open(d, 0, 2); s != nil || e != api.ErrDead { // what is read there may not last
		t.Error("Open", e)
	}
	if _, e := blocks.Open(d, 0, 0); e != api.ErrArg {
		t.Error("Open of none", e)
	}
	d.Crash(nil)
	has(t, opened(t, d, 0, 2), 0, -1, -1)
}

// Rules 4 and 5: nothing that is handed in or answered is shared with the store.
func TestNothingIsShared(t *testing.T) {
	d, s := newStore(t, 3)
	l := []api.Change{put(0, 1), put(1, 2)}
	ok(t, s.Apply(1, l))
	clear(l[0].Data)
	l[1] = gone(1)
	has(t, s, 1, 1, 2, -1)
	m := s.Image()
	ok(t, m.Write(0, full(3, 8)))
	has(t, s, 1, 1, 2, -1)
	ok(t, s.Replace(2, m))
	ok(t, m.Unmap(0, 3))
	has(t, s, 2, 8, 8, 8)
	ok(t, s.Apply(3, []api.Change{gone(2)}))
	if m.Used() != 0 {
		t.Error("an image that was handed in has changed")
	}
	has(t, opened(t, d, 0, 3), 3, 8, 8, -1)
}

// P6.1: two stores side by side, and what is not theirs.
func TestSideBySide(t *testing.T) {
	need := blocks.Need(7)
	d := newDisk(t, 2*need+2)
	ok(t, d.Write(0, bytes.Repeat([]byte{0xaa}, api.Sector)))
	ok(t, d.Write(2*need+1, bytes.Repeat([]byte{0xaa}, api.Sector)))
	a, b := opened(t, d, 1, 7), opened(t, d, 1+need, 7)
	for n := range int64(6) {
		ok(t, a.Apply(n+1, []api.Change{put(int(n), 1), put(6, byte(n))}))
		ok(t, b.Apply(n+11, []api.Change{put(6-int(n), 2), put(0, byte(n))}))
	}
	d.Crash(nil)
	has(t, opened(t, d, 1, 7), 6, 1, 1, 1, 1, 1, 1, 5)
	has(t, opened(t, d, 1+need, 7), 16, 5, 2, 2, 2, 2, 2, 2)
	now := d.Now()
	for _, at := range []int{0, 2*need + 1} {
		if !bytes.Equal(now[at*api.Sector:(at+1)*api.Sector], bytes.Repeat([]byte{0xaa}, api.Sector)) {
			t.Error("a sector of somebody else has changed:", at)
		}
	}
}
