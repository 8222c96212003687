package extent_test

import (
	"bytes"
	"math/rand"
	"slices"
	"testing"

	"caisson/api"
	"caisson/extent"
)

// P5.1 to P5.4: the chapter's example, byte by byte.
func TestExample(t *testing.T) {
	m := newImage(t, 4)
	ok(t, m.Write(1, full(2, 1)))
	if m.Used() != 2 || !slices.Equal(runs(m), [][2]int{{1, 2}}) {
		t.Error("Write", m.Used(), runs(m))
	}
	ok(t, m.Unmap(2, 1))
	if b, e := m.Read(2, 1); e != api.OK || !bytes.Equal(b, full(1, 0)) {
		t.Error("Read", b, e)
	}
	if b := m.Bytes(); !bytes.Equal(b, slices.Concat([]byte{0, 4, 0, 1, 0, 1}, full(1, 1))) {
		t.Error("Bytes", b)
	}
}

// P5.4: the bytes of the greatest image, and of one with nothing.
func TestBytesAtTheEdges(t *testing.T) {
	if b := newImage(t, 256).Bytes(); !bytes.Equal(b, []byte{1, 0, 0, 0}) {
		t.Error("nothing", b)
	}
	m := newImage(t, 256)
	want := []byte{1, 0, 1, 0}
	for lba := range 256 {
		b := full(1, 0)
		for i := range b {
			b[i] = byte(lba + i*3)
		}
		ok(t, m.Write(lba, b))
		want = slices.Concat(want, []byte{0, byte(lba)}, b)
	}
	if b := m.Bytes(); !bytes.Equal(b, want) {
		t.Error("all", len(b))
	}
	if o, e := extent.Load(want); e != api.OK || !o.Same(m) {
		t.Error("Load", e)
	}
}

// P5.4: what Load refuses, and by which error.
func TestLoadRefuses(t *testing.T) {
	one := full(1, 1)
	for _, c := range []struct {
		b    []byte
		want api.Errno
	}{
		{nil, api.ErrShort}, {[]byte{}, api.ErrShort}, {[]byte{0}, api.ErrShort}, {[]byte{0, 4}, api.ErrShort}, {[]byte{0, 4, 0}, api.ErrShort},
		{[]byte{0, 0, 0}, api.ErrShort}, // ahead of a size that can not be
		{[]byte{0, 0, 0, 0}, api.ErrArg}, {[]byte{1, 1, 0, 0}, api.ErrArg}, {[]byte{255, 255, 255, 255}, api.ErrArg}, {[]byte{0, 0, 0, 1}, api.ErrArg}, {[]byte{0, 0, 0, 0, 7}, api.ErrArg},
		{[]byte{0, 4, 0, 1}, api.ErrShort}, {[]byte{0, 4, 0, 1, 0}, api.ErrShort}, {[]byte{0, 4, 0, 1, 0, 1}, api.ErrShort},
		{slices.Concat([]byte{0, 4, 0, 1, 0, 1}, one[:63]), api.ErrShort},
		{slices.Concat([]byte{0, 4, 0, 1, 0, 4}, one[:63]), api.ErrShort}, // ahead of a number that can not be
		{slices.Concat([]byte{0, 4, 0, 1, 0, 4}, one), api.ErrForm},
		{slices.Concat([]byte{0, 4, 0, 1, 1, 0}, one), api.ErrForm},
		{slices.Concat([]byte{0, 4, 0, 1, 255, 255}, one), api.ErrForm},
		{slices.Concat([]byte{0, 4, 0, 2, 0, 4}, one), api.ErrForm}, // ahead of the next one, that is missing
		{slices.Concat([]byte{0, 4, 0, 2, 0, 1}, one), api.ErrShort},
		{slices.Concat([]byte{0, 4, 0, 2, 0, 1}, one, []byte{0, 1}, one), api.ErrForm},
		{slices.Concat([]byte{0, 4, 0, 2, 0, 1}, one, []byte{0, 0}, one), api.ErrForm},
		{slices.Concat([]byte{0, 4, 0, 2, 0, 1}, one, []byte{0, 0}, one[1:]), api.ErrShort},
		{slices.Concat([]byte{0, 1, 0, 2, 0, 0}, one, []byte{0, 1}, one), api.ErrForm},
		{[]byte{0, 4, 0, 0, 0}, api.ErrForm},
		{slices.Concat([]byte{0, 4, 0, 1, 0, 1}, one, []byte{0}), api.ErrForm},
		{slices.Concat([]byte{0, 4, 0, 0, 0, 1}, one), api.ErrForm},
		{slices.Concat([]byte{0, 4, 255, 255, 0, 1}, one), api.ErrShort},
	} {
		if m, e := extent.Load(c.b); m != nil || e != c.want {
			t.Errorf("Load of % x..: %v, not %v", c.b[:min(8, len(c.b))], e, c.want)
		}
	}
}

// P5.7: whatever bytes Load reads, it writes as the same ones; and neither fewer nor more of them are read.
func TestLoadOfAnything(t *testing.T) {
	r := rand.New(rand.NewSource(1))
	read := 0
	for range 20000 {
		m := newImage(t, 1+r.Intn(5))
		for lba := range m.Size() {
			if r.Intn(2) == 0 {
				ok(t, m.Write(lba, full(1, byte(r.Intn(3)))))
			}
		}
		b := m.Bytes()
		if _, e := extent.Load(b[:r.Intn(len(b))]); e != api.ErrShort {
			t.Fatal("Load of fewer bytes", e)
		}
		for range r.Intn(3) {
			b[r.Intn(min(len(b), 6+r.Intn(len(b))))] = byte(r.Intn(8))
		}
		if o, e := extent.Load(b); e == api.OK {
			read++
			if !bytes.Equal(o.Bytes(), b) {
				t.Fatalf("Load of % x is written as % x", b, o.Bytes())
			}
		} else if o != nil {
			t.Fatal("an image beside an error")
		}
	}
	if read < 100 {
		t.Error("hardly any bytes are read:", read)
	}
}

// model is blocks as a list; nil is one that is not there.
type model [][]byte

func (l model) check(t *testing.T, m *extent.Image) {
	t.Helper()
	used, all := 0, []byte(nil)
	for lba, b := range l {
		if m.Has(lba) != (b != nil) {
			t.Fatalf("Has(%d) is %v", lba, m.Has(lba))
		}
		if b != nil {
			used++
			all = append(all, b...)
		} else {
			all = append(all, full(1, 0)...)
		}
	}
	if b, e := m.Read(0, len(l)); e != api.OK || !bytes.Equal(b, all) || m.Used() != used {
		t.Fatal("Read", e)
	}
	var inRuns int
	for first, n := range m.Runs() {
		for lba := first; lba < first+n; lba++ {
			if !m.Has(lba) {
				t.Fatal("a run has", lba)
			}
		}
		if m.Has(first-1) || m.Has(first+n) {
			t.Fatal("a run could be longer", first, n)
		}
		inRuns += n
	}
	if inRuns != used {
		t.Fatal("runs have", inRuns, "of", used)
	}
	if o, e := extent.Load(m.Bytes()); e != api.OK || !o.Same(m) { // P5.7
		t.Fatal("Load", e)
	}
}

func step(t *testing.T, r *rand.Rand, l model, m *extent.Image) {
	t.Helper()
	lba := r.Intn(len(l))
	n := r.Intn(len(l) - lba + 1)
	switch r.Intn(4) {
	case 0, 1:
		b := make([]byte, n*api.Block)
		r.Read(b[:len(b)*r.Intn(2)]) // or all 0
		ok(t, m.Write(lba, b))
		for i := range n {
			l[lba+i] = b[i*api.Block : (i+1)*api.Block]
		}
	case 2:
		ok(t, m.Unmap(lba, n))
		clear(l[lba : lba+n])
	case 3:
		var c []api.Change
		for range r.Intn(6) {
			x := api.Change{Lba: r.Intn(len(l))}
			if r.Intn(2) == 0 {
				x.Data = full(1, byte(r.Intn(256)))
			}
			c = append(c, x)
			l[x.Lba] = x.Data
		}
		ok(t, m.Change(c))
	}
}

// P5.5, P5.6: whatever is done, what was written last is read; and an image that is changed by Diff is the other one.
func TestAtRandom(t *testing.T) {
	for seed := range int64(60) {
		r := rand.New(rand.NewSource(seed))
		size := []int{1, 2, 5, 40, 256}[r.Intn(5)]
		m, l := newImage(t, size), make(model, size)
		var older []*extent.Image
		for range 60 {
			older = append(older, m.Copy())
			step(t, r, l, m)
			l.check(t, m)
			o := older[r.Intn(len(older))].Copy()
			c, e := o.Diff(m)
			ok(t, e)
			ok(t, o.Change(c))
			if !o.Same(m) {
				t.Fatal("Diff does not make the other one")
			}
		}
	}
}
