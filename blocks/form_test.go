package blocks_test

import (
	"bytes"
	"math/rand"
	"testing"

	"caisson/api"
	"caisson/blocks"
	"caisson/disk"
)

func loaded(t *testing.T, image []byte) *disk.Disk {
	t.Helper()
	d, e := disk.Load(image)
	ok(t, e)
	return d
}

func refused(t *testing.T, d *disk.Disk, from, n int) {
	t.Helper()
	before, pending := d.Now(), d.Pending()
	if s, e := blocks.Open(d, from, n); s != nil || e != api.ErrForm {
		t.Errorf("Open from %d, of %d blocks: %v", from, n, e)
	}
	if !bytes.Equal(d.Now(), before) || d.Pending() != pending || d.Dead() {
		t.Error("a refused Open changed the disk")
	}
}

// worn is a disk on which a store of five blocks has done some strokes, and failed at one.
func worn(t *testing.T) *disk.Disk {
	t.Helper()
	d, s := newStore(t, 5)
	ok(t, s.Apply(1, []api.Change{put(0, 1), put(3, 2)}))
	ok(t, s.Apply(2, []api.Change{put(1, 3), put(2, 3)}))
	ok(t, s.Apply(4, []api.Change{gone(3)}))
	d.Fail()
	if e := s.Apply(5, []api.Change{put(4, 4), put(0, 4)}); e != api.ErrFlush {
		t.Fatal("Apply", e)
	}
	d.Crash([]int{-1, -1})
	has(t, opened(t, d, 0, 5), 4, 1, 3, 3, -1, -1)
	return d
}

// P6.1: bytes of any kind.
func TestOpenOnAnything(t *testing.T) {
	need := blocks.Need(5)
	for _, c := range []byte{1, 0x80, 0xff} {
		refused(t, loaded(t, bytes.Repeat([]byte{c}, need*api.Sector)), 0, 5)
	}
	r := rand.New(rand.NewSource(1))
	for range 300 {
		b := make([]byte, need*api.Sector)
		at := r.Intn(need) * api.Sector // some sectors may be all 0
		r.Read(b[at : at+api.Sector])
		refused(t, loaded(t, b), 0, 5)
		r.Read(b)
		refused(t, loaded(t, b), 0, 5)
	}
}

// P6.1, P7: what a store has written is read; with one byte another one it is refused.
func TestOpenWithAByteChanged(t *testing.T) {
	for _, image := range [][]byte{worn(t).Image(), newDisk(t, blocks.Need(5)).Image()} {
		for at := range image {
			image[at] ^= 1 << (at % 8)
			refused(t, loaded(t, image), 0, 5)
			image[at] ^= 1 << (at % 8)
		}
		opened(t, loaded(t, image), 0, 5)
	}
}

// P6.1: sectors that are another store's, of which some are missing, or that stand in other places.
func TestOpenOfAnotherStore(t *testing.T) {
	d := worn(t)
	image := d.Image()
	grown := loaded(t, append(append(make([]byte, api.Sector), image...), make([]byte, 20*api.Sector)...))
	has(t, opened(t, grown, 1, 5), 4, 1, 3, 3, -1, -1)
	for _, n := range []int{1, 2, 3, 4, 6, 7, 9, 15} {
		refused(t, grown, 1, n)
	}
	for _, from := range []int{0, 2, 3} {
		refused(t, grown, from, 5)
	}
	need := blocks.Need(5)
	for a := range need {
		for b := range a {
			c := bytes.Clone(image)
			copy(c[a*api.Sector:], image[b*api.Sector:(b+1)*api.Sector])
			copy(c[b*api.Sector:], image[a*api.Sector:(a+1)*api.Sector])
			if !bytes.Equal(c, image) {
				refused(t, loaded(t, c), 0, 5)
			}
		}
	}
	for _, keep := range []int{0, 1} { // all but the head, and the head alone
		c := bytes.Clone(image)
		if keep == 0 {
			clear(c[:api.Sector])
		} else {
			clear(c[api.Sector:])
		}
		refused(t, loaded(t, c), 0, 5)
	}
}

// P6.1: a block that is there, where no sector has it.
func TestOpenWithAGroupMissing(t *testing.T) {
	d := worn(t)
	image := d.Image()
	missed := 0
	for at := api.Sector; at < len(image); at += api.Sector {
		c := bytes.Clone(image)
		clear(c[at : at+api.Sector])
		s, e := blocks.Open(loaded(t, c), 0, 5)
		if e == api.OK {
			has(t, s, 4, 1, 3, 3, -1, -1) // it was in use no more
		} else if e != api.ErrForm {
			t.Error("Open", e)
		} else {
			missed++
		}
	}
	if missed == 0 {
		t.Error("no sector is missed")
	}
}
