package extent_test

import (
	"bytes"
	"math"
	"slices"
	"testing"

	"caisson/api"
	"caisson/extent"
)

func newImage(t *testing.T, blocks int) *extent.Image {
	t.Helper()
	m, e := extent.New(blocks)
	if e != api.OK || m == nil {
		t.Fatalf("New(%d): %v", blocks, e)
	}
	return m
}

// full is n blocks all of c.
func full(n int, c byte) []byte { return bytes.Repeat([]byte{c}, n*api.Block) }

func ok(t *testing.T, e api.Errno) {
	t.Helper()
	if e != api.OK {
		t.Fatal("an error:", e)
	}
}

// firsts is the first byte of each block from 0 on, and -1 of one that is not there.
func firsts(t *testing.T, m *extent.Image) []int {
	t.Helper()
	var l []int
	for lba := range m.Size() {
		b, e := m.Read(lba, 1)
		ok(t, e)
		if m.Has(lba) {
			l = append(l, int(b[0]))
		} else {
			l = append(l, -1)
		}
	}
	return l
}

func has(t *testing.T, m *extent.Image, want ...int) {
	t.Helper()
	if l := firsts(t, m); !slices.Equal(l, want) {
		t.Fatalf("the blocks are %v, not %v", l, want)
	}
}

// P5.1: New, at its edges and beyond them.
func TestNew(t *testing.T) {
	for _, n := range []int{1, 2, 255, api.MaxBlocks} {
		m := newImage(t, n)
		if m.Size() != n || m.Used() != 0 {
			t.Errorf("New(%d): size %d, used %d", n, m.Size(), m.Used())
		}
		for _, lba := range []int{0, n - 1, n, -1, math.MaxInt, math.MinInt} {
			if m.Has(lba) {
				t.Errorf("New(%d) has %d", n, lba)
			}
		}
	}
	for _, n := range []int{0, -1, api.MaxBlocks + 1, math.MaxInt, math.MinInt} {
		if m, e := extent.New(n); m != nil || e != api.ErrArg {
			t.Errorf("New(%d): %v", n, e)
		}
	}
}

// P5.1: all calls of nil.
func TestNil(t *testing.T) {
	var m *extent.Image
	o := newImage(t, 2)
	if m.Size() != 0 || m.Used() != 0 || m.Has(0) || m.Bytes() != nil || m.Copy() != nil {
		t.Error("nil has something")
	}
	for range m.Runs() {
		t.Error("nil has a run")
	}
	if b, e := m.Read(0, 0); b != nil || e != api.ErrNil {
		t.Error("Read", e)
	}
	if e := m.Write(-1, full(1, 1)); e != api.ErrNil {
		t.Error("Write", e)
	}
	if e := m.Unmap(-1, -1); e != api.ErrNil {
		t.Error("Unmap", e)
	}
	if e := m.Change([]api.Change{{Lba: -1}}); e != api.ErrNil {
		t.Error("Change", e)
	}
	for _, p := range []*extent.Image{nil, o} {
		if l, e := m.Diff(p); l != nil || e != api.ErrNil {
			t.Error("Diff of nil", e)
		}
	}
	if l, e := o.Diff(nil); l != nil || e != api.ErrNil {
		t.Error("Diff(nil)", e)
	}
	if !m.Same(nil) || m.Same(o) || o.Same(nil) {
		t.Error("Same")
	}
}

// P1: an image that New did not make has no blocks at all.
func TestNoneMade(t *testing.T) {
	var m extent.Image
	ok(t, m.Write(0, nil))
	ok(t, m.Unmap(0, 0))
	ok(t, m.Change(nil))
	if m.Write(0, full(1, 1)) != api.ErrArg || m.Change([]api.Change{{}}) != api.ErrArg || m.Copy().Size() != 0 || !m.Same(&extent.Image{}) {
		t.Error("it has blocks")
	}
	if _, e := extent.Load(m.Bytes()); e != api.ErrArg {
		t.Error("Load", e)
	}
}

// spans are ranges of blocks of an image of four, and those that can not be.
func spans() []struct {
	lba, n int
	can    bool
} {
	return []struct {
		lba, n int
		can    bool
	}{
		{0, 0, true}, {0, 1, true}, {0, 4, true}, {3, 1, true}, {4, 0, true}, {1, 2, true},
		{0, 5, false}, {4, 1, false}, {5, 0, false}, {3, 2, false}, {-1, 1, false}, {-1, 0, false}, {-4, 4, false}, {-1, 5, false},
		{math.MaxInt, 1, false}, {math.MaxInt, 0, false}, {math.MinInt, 0, false}, {1 << 60, 4, false},
	}
}

// P5.2: which blocks can be read, written and taken away.
func TestSpans(t *testing.T) {
	for _, c := range spans() {
		m := newImage(t, 4)
		ok(t, m.Write(0, full(4, 5)))
		before := m.Copy()
		b, e := m.Read(c.lba, c.n)
		if (e == api.OK) != c.can || e != api.OK && (e != api.ErrArg || b != nil) || e == api.OK && !bytes.Equal(b, full(c.n, 5)) {
			t.Errorf("Read(%d, %d): %d bytes, %v", c.lba, c.n, len(b), e)
		}
		e = m.Write(c.lba, full(c.n, 7))
		if (e == api.OK) != c.can || e != api.OK && (e != api.ErrArg || !m.Same(before)) || e == api.OK && (m.Used() != 4 || m.Same(before) != (c.n == 0)) {
			t.Errorf("Write(%d, %d blocks): %v", c.lba, c.n, e)
		}
		m = before.Copy()
		e = m.Unmap(c.lba, c.n)
		if (e == api.OK) != c.can || e != api.OK && (e != api.ErrArg || !m.Same(before)) || e == api.OK && m.Used() != 4-c.n {
			t.Errorf("Unmap(%d, %d): %v", c.lba, c.n, e)
		}
	}
	m := newImage(t, 4)
	for _, n := range []int{-1, math.MinInt, math.MaxInt, 1 << 58, 1 << 60} {
		for _, lba := range []int{-1, 0, 1, 4, math.MaxInt, math.MinInt} {
			if b, e := m.Read(lba, n); b != nil || e != api.ErrArg {
				t.Errorf("Read(%d, %d): %v", lba, n, e)
			}
			if e := m.Unmap(lba, n); e != api.ErrArg {
				t.Errorf("Unmap(%d, %d): %v", lba, n, e)
			}
		}
	}
}

// P5.2: bytes that are no blocks.
func TestWriteOfOtherLengths(t *testing.T) {
	m := newImage(t, 4)
	for _, n := range []int{1, 63, 65, 127, 129, 255} {
		if e := m.Write(0, make([]byte, n)); e != api.ErrArg || m.Used() != 0 {
			t.Errorf("Write of %d bytes: %v, used %d", n, e, m.Used())
		}
	}
}

// P5.2: what is written is there, also if it is 0, and reads as 0 behind Unmap.
func TestWriteReadUnmap(t *testing.T) {
	m := newImage(t, 4)
	b := full(3, 0)
	b[0], b[63], b[64], b[191] = 1, 2, 3, 4
	ok(t, m.Write(1, b))
	if x, _ := m.Read(0, 4); !bytes.Equal(x, append(full(1, 0), b...)) {
		t.Error("Read", x)
	}
	ok(t, m.Write(2, full(1, 0)))
	has(t, m, -1, 1, 0, 0)
	if m.Used() != 3 {
		t.Error("Used", m.Used())
	}
	ok(t, m.Unmap(0, 2)) // one that was not there, too
	has(t, m, -1, -1, 0, 0)
	if x, _ := m.Read(1, 1); !bytes.Equal(x, full(1, 0)) || m.Has(1) || m.Used() != 2 {
		t.Error("behind Unmap", x)
	}
}

// P5.2: changes are done one behind the other, or none of them.
func TestChange(t *testing.T) {
	m := newImage(t, 4)
	ok(t, m.Write(0, full(2, 9)))
	ok(t, m.Change(nil))
	ok(t, m.Change([]api.Change{{Lba: 0, Data: full(1, 1)}, {Lba: 0, Data: nil}, {Lba: 1, Data: []byte{}}, {Lba: 1, Data: full(1, 2)}, {Lba: 3, Data: full(1, 0)}, {Lba: 2, Data: nil}, {Lba: 3, Data: full(1, 3)}}))
	has(t, m, -1, 2, -1, 3)
	for _, bad := range []api.Change{
		{Lba: -1}, {Lba: 4}, {Lba: math.MaxInt}, {Lba: math.MinInt}, {Lba: 4, Data: full(1, 1)}, {Lba: -1, Data: full(1, 1)},
		{Lba: 0, Data: full(2, 1)}, {Lba: 0, Data: make([]byte, 1)}, {Lba: 0, Data: make([]byte, 63)}, {Lba: 0, Data: make([]byte, 65)},
	} {
		for at := range 3 {
			l := slices.Insert([]api.Change{{Lba: 1, Data: nil}, {Lba: 2, Data: full(1, 7)}}, at, bad)
			if e := m.Change(l); e != api.ErrArg {
				t.Errorf("Change of %d, %d bytes: %v", bad.Lba, len(bad.Data), e)
			}
			has(t, m, -1, 2, -1, 3)
		}
	}
}

// Rules 4 and 5: nothing that is handed in or answered is shared with the image, or with another one.
func TestNothingIsShared(t *testing.T) {
	m, b := newImage(t, 4), full(2, 1)
	ok(t, m.Write(0, b))
	l := []api.Change{{Lba: 2, Data: full(1, 2)}}
	ok(t, m.Change(l))
	o := m.Copy()
	clear(b)
	clear(l[0].Data)
	has(t, m, 1, 1, 2, -1)
	x, _ := m.Read(0, 4)
	clear(x)
	clear(m.Bytes())
	has(t, m, 1, 1, 2, -1)
	ok(t, o.Write(0, full(4, 8)))
	ok(t, m.Unmap(2, 1))
	has(t, m, 1, 1, -1, -1)
	has(t, o, 8, 8, 8, 8)
	d, _ := m.Diff(o)
	clear(d[0].Data)
	has(t, o, 8, 8, 8, 8)
	if !bytes.Equal(d[1].Data, full(1, 8)) {
		t.Error("two changes share memory")
	}
	in := o.Bytes()
	p, _ := extent.Load(in)
	clear(in)
	has(t, p, 8, 8, 8, 8)
}
