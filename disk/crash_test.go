package disk_test

import (
	"bytes"
	"math/rand"
	"testing"

	"caisson/api"
	"caisson/disk"
)

type sector = [api.Sector]byte

// plain is a disk as the document tells it, sector by sector.
type plain struct {
	safe   []sector
	groups []map[int]sector
}

func (p *plain) write(at int, b []byte) {
	g := map[int]sector{}
	for i := 0; i*api.Sector < len(b); i++ {
		var s sector
		copy(s[:], b[i*api.Sector:])
		g[at+i] = s
	}
	p.groups = append(p.groups, g)
}

func (p *plain) now() []sector {
	out := append([]sector(nil), p.safe...)
	for _, g := range p.groups {
		for i, s := range g {
			out[i] = s
		}
	}
	return out
}

func joined(l []sector) []byte {
	var out []byte
	for _, s := range l {
		out = append(out, s[:]...)
	}
	return out
}

func writeSome(r *rand.Rand, d *disk.Disk, p *plain) api.Errno {
	size := len(p.safe)
	at := r.Intn(size)
	b := make([]byte, 1+r.Intn((size-at)*api.Sector))
	r.Read(b)
	e := d.Write(at, b)
	if e == api.OK {
		p.write(at, b)
	}
	return e
}

func compare(t *testing.T, d *disk.Disk, p *plain) {
	t.Helper()
	if !bytes.Equal(d.Now(), joined(p.now())) || !bytes.Equal(d.Image(), joined(p.safe)) || d.Pending() != len(p.groups) {
		t.Fatalf("the disk is not as it was told: %d groups, not %d", d.Pending(), len(p.groups))
	}
}

// checkCrash: each sector is as it was safe, or as a group had it (P3.5); what no group had is as it was safe (P3.4).
func checkCrash(t *testing.T, d *disk.Disk, p *plain) {
	t.Helper()
	now := d.Now()
	for i := range p.safe {
		got := sector(now[i*api.Sector:])
		ok := got == p.safe[i]
		for _, g := range p.groups {
			s, there := g[i]
			ok = ok || there && s == got
		}
		if !ok {
			t.Fatalf("the sector %d is as nobody had it", i)
		}
		p.safe[i] = got
	}
	p.groups = nil
}

// P3.2 to P3.5, over many steps; a flush that fails and a crash at any time.
func TestManySteps(t *testing.T) {
	for seed := range int64(60) {
		r := rand.New(rand.NewSource(seed))
		size := 1 + r.Intn(40)
		d := newDisk(t, size)
		p := &plain{safe: make([]sector, size)}
		for range 60 {
			switch r.Intn(8) {
			default:
				if e := writeSome(r, d, p); (e == api.ErrDead) != d.Dead() {
					t.Fatal("Write", e)
				}
			case 5:
				if e := d.Flush(); e == api.OK {
					p.safe, p.groups = p.now(), nil
				}
			case 6:
				kept := make([]int, r.Intn(len(p.groups)+2))
				for i := range kept {
					kept[i] = int(int16(r.Uint32()))
				}
				d.Crash(kept)
				checkCrash(t, d, p)
			case 7:
				if r.Intn(4) == 0 {
					d.Fail()
				}
			}
			compare(t, d, p)
		}
	}
}

// P3.6: a crash that keeps all, and one that keeps nothing.
func TestCrashOfAllOrNothing(t *testing.T) {
	for seed := range int64(40) {
		r := rand.New(rand.NewSource(seed))
		d := newDisk(t, 1+r.Intn(40))
		p := &plain{safe: make([]sector, d.Size())}
		var all []int
		for i := range 12 {
			writeSome(r, d, p)
			if i == 4 {
				d.Flush()
				p.safe, p.groups = p.now(), nil
			}
		}
		for range d.Pending() {
			all = append(all, -1)
		}
		nothing, before := d.Copy(), d.Now()
		d.Crash(all)
		if !bytes.Equal(d.Now(), before) || !bytes.Equal(d.Image(), before) {
			t.Error("a crash that keeps all changes what is read")
		}
		image := nothing.Image()
		nothing.Crash(make([]int, len(all)))
		if !bytes.Equal(nothing.Now(), image) || !bytes.Equal(nothing.Image(), image) || !bytes.Equal(image, joined(p.safe)) {
			t.Error("a crash that keeps nothing is not as Load of the image")
		}
	}
}

// P3.3: a copy is as the disk is, and goes its own way.
func TestCopy(t *testing.T) {
	d, _ := disk.Load(full(4, 9))
	write(t, d, 0, full(1, 1))
	write(t, d, 1, full(2, 2))
	d.Fail()
	c := d.Copy()
	if !bytes.Equal(c.Image(), d.Image()) || !bytes.Equal(c.Now(), d.Now()) || c.Pending() != 2 || c.Size() != 4 || c.Dead() {
		t.Error("the copy is otherwise")
	}
	write(t, d, 3, full(1, 3)) // both groups behind the same two: one must not stand in the other's place
	write(t, c, 3, full(1, 4))
	if e := c.Flush(); e != api.ErrFlush || !c.Dead() || d.Dead() {
		t.Error("the copy does not fail", e)
	}
	dead := c.Copy()
	if !dead.Dead() || dead.Write(0, []byte{1}) != api.ErrDead {
		t.Error("the copy of a dead disk lives")
	}
	d.Crash([]int{1, 1, 1})
	if got := firsts(d.Now()); !bytes.Equal(got, []byte{1, 2, 9, 3}) {
		t.Error("the disk behind the copy's writes", got)
	}
	c.Crash([]int{0, 2, 1})
	if got := firsts(c.Now()); !bytes.Equal(got, []byte{9, 9, 2, 4}) {
		t.Error("the copy behind the disk's crash", got)
	}
	if got := firsts(dead.Now()); !bytes.Equal(got, []byte{1, 2, 2, 4}) || dead.Pending() != 3 {
		t.Error("the second copy behind all that", got)
	}
}

// scribble writes into a list and behind it, as far as its memory goes.
func scribble(b []byte) {
	b = b[:cap(b)]
	for i := range b {
		b[i] = 0xee
	}
}

// What is handed in is neither changed nor kept, and what is answered is nobody else's.
func TestAnswersAreNewMemory(t *testing.T) {
	image := full(4, 9)
	d, _ := disk.Load(image)
	scribble(image)
	b := full(1, 1)
	write(t, d, 1, b)
	scribble(b)
	kept := d.Copy()
	want := []byte{9, 1, 9, 9}
	for _, answer := range [][]byte{d.Now(), d.Image(), kept.Now(), kept.Image()} {
		scribble(answer)
	}
	read, _ := d.Read(0, 2)
	again, _ := d.Read(0, 2)
	scribble(append(read, 1, 2, 3))
	scribble(read)
	if !bytes.Equal(firsts(d.Now()), want) || !bytes.Equal(firsts(again), want[:2]) || !bytes.Equal(firsts(kept.Now()), want) {
		t.Error("an answer shares memory", firsts(d.Now()), firsts(again))
	}
	keep := []int{1}
	d.Crash(keep)
	scribble(d.Now())
	if !bytes.Equal(firsts(d.Image()), want) || !bytes.Equal(firsts(d.Now()), want) || keep[0] != 1 {
		t.Error("what is safe shares memory", firsts(d.Image()))
	}
}
