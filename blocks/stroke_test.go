package blocks

import (
	"bytes"
	"math/rand"
	"testing"

	"caisson/api"
	"caisson/disk"
	"caisson/extent"
)

// powerCut is a stroke that loses its power at each of its steps: the disk as it is there, with all that is not safe yet.
func powerCut(t *testing.T, s *Store, n int64, next *extent.Image) []*disk.Disk {
	t.Helper()
	d := s.disk
	h, groups := s.plan(n, next)
	steps := []*disk.Disk{d.Copy()}
	for _, k := range []stroke{groups, {headPlace: s.area.headSector(h, next)}} {
		for at, b := range k.rising() {
			if e := d.Write(s.area.from+at, b); e != api.OK {
				t.Fatal("Write", e)
			}
			steps = append(steps, d.Copy())
		}
		if e := d.Flush(); e != api.OK {
			t.Fatal("Flush", e)
		}
		steps = append(steps, d.Copy())
	}
	return steps
}

// eachCrash goes through all ways in which a disk can keep some of its groups, of a sector each.
func eachCrash(d *disk.Disk, do func(*disk.Disk)) {
	n := d.Pending()
	for bits := range 1 << n {
		kept := make([]int, n)
		for i := range kept {
			kept[i] = bits >> i & 1
		}
		c := d.Copy()
		c.Crash(kept)
		do(c)
	}
}

// someImage has about two blocks of three, of few kinds of bytes.
func someImage(t *testing.T, r *rand.Rand, blocks int) *extent.Image {
	t.Helper()
	m, e := extent.New(blocks)
	if e != api.OK {
		t.Fatal("New", e)
	}
	for lba := range blocks {
		if r.Intn(3) > 0 {
			m.Write(lba, bytes.Repeat([]byte{byte(r.Intn(3))}, api.Block))
		}
	}
	return m
}

// P6.3: power that goes away at any step of a stroke, whatever the disk keeps, leaves all of it or nothing.
func TestPowerCutAtEachStep(t *testing.T) {
	const blocks = 13
	for seed := range int64(40) {
		r := rand.New(rand.NewSource(seed))
		d, _ := disk.New(Need(blocks) + 1)
		s, e := Open(d, 1, blocks)
		for n := int64(1); n < 6 && e == api.OK; n++ {
			old, next := s.Image(), someImage(t, r, blocks)
			for _, step := range powerCut(t, s, n, next) {
				eachCrash(step, func(c *disk.Disk) {
					o, e := Open(c, 1, blocks)
					if e != api.OK || !(o.Applied() == n-1 && o.Image().Same(old)) && !(o.Applied() == n && o.Image().Same(next)) {
						t.Fatal("behind a crash within the stroke", n, o.Applied(), e)
					}
				})
			}
			if s, e = Open(d, 1, blocks); s.Applied() != n || !s.Image().Same(next) {
				t.Fatal("behind the stroke", n, s.Applied(), e)
			}
		}
		if e != api.OK {
			t.Fatal("Open", e)
		}
	}
}

// P6.3: nothing that is in use is written over, and the head alone in one sector.
func TestStrokeLeavesWhatIsInUse(t *testing.T) {
	r := rand.New(rand.NewSource(1))
	d, _ := disk.New(Need(40))
	s, _ := Open(d, 0, 40)
	for n := int64(1); n < 30; n++ {
		next := someImage(t, r, 40)
		_, groups := s.plan(n, next)
		for at, b := range groups.rising() {
			g := (at - 1) / 2
			if at == headPlace || at == place(g, s.head.turned[g]) || len(b) != api.Sector {
				t.Fatal("the stroke", n, "writes the place", at, "by bytes", len(b))
			}
		}
		if e := s.strike(n, next); e != api.OK || len(s.area.headSector(s.head, next)) != api.Sector {
			t.Fatal("strike", e)
		}
	}
}

// P1: an iterator that is left ahead of its end.
func TestLeftAheadOfTheEnd(t *testing.T) {
	a, _ := extent.New(9)
	b := a.Copy()
	b.Write(0, make([]byte, 9*api.Block))
	n := 0
	for lba := range changed(a, b) {
		if n++; lba == 4 {
			break
		}
	}
	for at := range (stroke{5: nil, 2: nil, 9: nil}).rising() {
		if n++; at == 5 {
			break
		}
	}
	if n != 5+2 {
		t.Error("gone through", n)
	}
}
