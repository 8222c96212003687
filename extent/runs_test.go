package extent_test

import (
	"bytes"
	"slices"
	"testing"

	"caisson/api"
	"caisson/extent"
)

// runs is all runs, the first number and how many of each.
func runs(m *extent.Image) [][2]int {
	var l [][2]int
	for first, n := range m.Runs() {
		l = append(l, [2]int{first, n})
	}
	return l
}

// of is an image of which just these blocks are there.
func of(t *testing.T, blocks int, lbas ...int) *extent.Image {
	t.Helper()
	m := newImage(t, blocks)
	for _, lba := range lbas {
		ok(t, m.Write(lba, full(1, byte(lba))))
	}
	return m
}

// P5.3: runs are as long as can be, and rise.
func TestRuns(t *testing.T) {
	var all []int
	for lba := range 256 {
		all = append(all, lba)
	}
	for _, c := range []struct {
		blocks int
		lbas   []int
		want   [][2]int
	}{
		{4, nil, nil},
		{1, []int{0}, [][2]int{{0, 1}}},
		{4, []int{3}, [][2]int{{3, 1}}},
		{4, []int{2, 1}, [][2]int{{1, 2}}},
		{4, []int{3, 0}, [][2]int{{0, 1}, {3, 1}}},
		{8, []int{7, 0, 1, 3, 4, 5}, [][2]int{{0, 2}, {3, 3}, {7, 1}}},
		{256, all, [][2]int{{0, 256}}},
		{256, []int{255, 0}, [][2]int{{0, 1}, {255, 1}}},
	} {
		if l := runs(of(t, c.blocks, c.lbas...)); !slices.Equal(l, c.want) {
			t.Errorf("runs of %v: %v, not %v", c.lbas, l, c.want)
		}
	}
}

// P5.3: the runs are those of the call, whenever, how often and how far they are gone through.
func TestRunsStay(t *testing.T) {
	m := of(t, 8, 1, 2, 5)
	want := runs(m)
	r := m.Runs()
	ok(t, m.Write(0, full(8, 1)))
	for range 2 {
		var l [][2]int
		for first, n := range r {
			l = append(l, [2]int{first, n})
			ok(t, m.Unmap(0, 8))
		}
		if !slices.Equal(l, want) {
			t.Errorf("runs %v, not %v", l, want)
		}
	}
	n := 0
	for range r {
		n++
		break
	}
	if n != 1 || len(runs(m)) != 0 {
		t.Error("runs behind a break", n, runs(m))
	}
}

// P5.3: a change for each block that is there in one only, or has other bytes; no other.
func TestDiff(t *testing.T) {
	m, o := of(t, 6, 0, 1, 2), of(t, 6, 1, 2, 4)
	ok(t, o.Write(2, full(1, 9)))
	ok(t, o.Write(5, full(1, 0))) // there, and reads as where it is not
	l, e := m.Diff(o)
	ok(t, e)
	want := []api.Change{{Lba: 0}, {Lba: 2, Data: full(1, 9)}, {Lba: 4, Data: full(1, 4)}, {Lba: 5, Data: full(1, 0)}}
	if !slices.EqualFunc(l, want, func(a, b api.Change) bool { return a.Lba == b.Lba && bytes.Equal(a.Data, b.Data) }) {
		t.Errorf("Diff: %v", l)
	}
	has(t, m, 0, 1, 2, -1, -1, -1)
	if l, e := m.Diff(m); len(l) != 0 || e != api.OK {
		t.Error("Diff of itself", l, e)
	}
	if l, e := m.Diff(m.Copy()); len(l) != 0 || e != api.OK {
		t.Error("Diff of a copy", l, e)
	}
	for _, n := range []int{5, 7} {
		if l, e := m.Diff(newImage(t, n)); l != nil || e != api.ErrArg {
			t.Error("Diff of another size", e)
		}
	}
}

// P5.3: a block whose last byte alone is another one.
func TestDiffOfOneByte(t *testing.T) {
	m := of(t, 2, 0, 1)
	o := m.Copy()
	b, _ := o.Read(1, 1)
	b[63]++
	ok(t, o.Write(1, b))
	if l, _ := m.Diff(o); len(l) != 1 || l[0].Lba != 1 || !bytes.Equal(l[0].Data, b) || m.Same(o) {
		t.Error("Diff", l)
	}
}

// P5.4: Same hangs on the size, the blocks and their bytes.
func TestSame(t *testing.T) {
	m := of(t, 4, 1)
	zero := newImage(t, 4)
	ok(t, zero.Write(0, full(1, 0)))
	for _, c := range []struct {
		a, b *extent.Image
		want bool
	}{
		{m, m, true}, {m, of(t, 4, 1), true}, {m, of(t, 5, 1), false}, {m, of(t, 4, 2), false}, {m, of(t, 4), false}, {m, of(t, 4, 1, 2), false},
		{newImage(t, 4), newImage(t, 4), true}, {newImage(t, 4), newImage(t, 3), false}, {zero, newImage(t, 4), false},
	} {
		if c.a.Same(c.b) != c.want || c.b.Same(c.a) != c.want {
			t.Errorf("Same of %v and %v is not %v", runs(c.a), runs(c.b), c.want)
		}
	}
}
