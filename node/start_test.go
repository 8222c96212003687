package node_test

import (
	"bytes"
	"math/rand"
	"slices"
	"testing"

	"caisson/api"
	"caisson/disk"
	"caisson/node"
)

// P21.1: an error of the disk is New's, ahead of what stands there.
func TestNewOfFailingDisks(t *testing.T) {
	c := confOf(3, 1, 8, 1)
	junk := bytes.Repeat([]byte{0xff}, 256*node.Need(c))
	for _, image := range [][]byte{make([]byte, len(junk)), junk} {
		d, _ := disk.Load(image)
		d.Fail()
		if x, e := node.New(1, c, d); e != api.ErrFlush || x != nil || !d.Dead() {
			t.Fatal(e, d.Dead())
		}
		if x, e := node.New(1, c, d); e != api.ErrDead || x != nil {
			t.Fatal(e)
		}
	}
	d, _ := disk.New(node.Need(c))
	d.Fail()
	node.New(1, c, d)
	d.Crash(nil)
	if x, e := node.New(1, c, d); e != api.OK || x == nil {
		t.Fatal(e)
	}
}

// P21.1: what can not be a machine's is refused, and left as it is.
func TestNewOfJunk(t *testing.T) {
	c := confOf(3, 2, 8, 1)
	size := 256 * node.Need(c)
	noise := make([]byte, size)
	rand.New(rand.NewSource(1)).Read(noise)
	for i, image := range [][]byte{bytes.Repeat([]byte{0xff}, size), bytes.Repeat([]byte{1}, size), noise, bytes.Repeat([]byte("caisson "), size/8)} {
		d, _ := disk.Load(image)
		if x, e := node.New(1, c, d); e != api.ErrForm || x != nil {
			t.Error(i, e)
		}
		if !bytes.Equal(d.Image(), image) || !bytes.Equal(d.Now(), image) || d.Pending() != 0 || d.Dead() {
			t.Error(i, "the disk was changed")
		}
	}
}

// used is a disk with images, blocks and entries on it.
func used(t *testing.T, c node.Conf) *desk {
	t.Helper()
	k := newDesk(t, 0, c)
	k.leads(1)
	for n := range 60 {
		a := write(n%c.Blocks, 1, byte(n+1))
		a.lun = n % c.Units
		k.send(n%5, a)
		k.peers(1)
	}
	k.send(1, write(1, 1, 99))
	return k
}

// P21.1: a machine's disk of which a sector was changed is a machine's, or is refused; whatever stands there, New ends.
func TestNewOfChangedSectors(t *testing.T) {
	c := confOf(3, 2, 8, 1)
	k := used(t, c)
	image := k.disk.Image()
	refused := 0
	r := rand.New(rand.NewSource(1))
	for at := 0; at < len(image)/256; at += 1 + at/300 { // most of the journal is empty
		b := slices.Clone(image)
		switch r.Intn(3) {
		case 0:
			b[256*at+r.Intn(256)] ^= byte(1 << r.Intn(8))
		case 1:
			clear(b[256*at : 256*at+256])
		case 2:
			r.Read(b[256*at : 256*at+256])
		}
		d, _ := disk.Load(b)
		x, e := node.New(0, c, d)
		if e != api.OK && e != api.ErrForm || (x != nil) != (e == api.OK) {
			t.Fatal(at, e)
		}
		if e == api.ErrForm {
			refused++
			if !bytes.Equal(d.Now(), b) {
				t.Fatal(at, "the disk was changed")
			}
		}
	}
	if refused < 10 {
		t.Error(refused)
	}
}

// P21.1: a disk of other units is no machine's.
func TestNewOfAnotherConf(t *testing.T) {
	for _, x := range [][2]node.Conf{
		{confOf(3, 2, 8, 1), confOf(3, 1, 8, 1)},
		{confOf(3, 2, 9, 1), confOf(3, 2, 8, 1)},
		{confOf(3, 1, 64, 1), confOf(3, 3, 8, 1)},
		{confOf(1, 3, 64, 1), confOf(3, 1, 2, 1)},
	} {
		k := used(t, x[0])
		image := k.disk.Image()
		image = append(image, make([]byte, 256*max(0, node.Need(x[1])-node.Need(x[0])))...)
		d, _ := disk.Load(image)
		if _, e := node.New(0, x[1], d); e != api.ErrForm {
			t.Error(x, e)
		}
	}
}

// A machine starts again with all that it has answered, as often as it may be, and on a greater disk, too.
func TestStartsAgain(t *testing.T) {
	for _, c := range []node.Conf{confOf(3, 1, 8, 1), confOf(3, 3, 64, 4), confOf(3, 1, 1, 2)} {
		k := used(t, c)
		was, state, applied := k.x.Info(), k.x.State().Bytes(), k.x.Applied()
		d, _ := disk.Load(append(k.disk.Image(), make([]byte, 256*50)...))
		for range 5 {
			k.crash()
			i := k.x.Info()
			if i.Term != was.Term || i.Voted != was.Voted || k.x.Top() != was.Commit+1 || i.Role != api.Follower || i.Leader != -1 {
				t.Fatal(c, i, was)
			}
			if k.x.Applied() == applied && !bytes.Equal(k.x.State().Bytes(), state) {
				t.Fatal(c, "another state")
			}
		}
		k.disk = d
		for range 2 {
			k.start()
			k.leads(1)
			for n := range 100 {
				k.send(1, write(n%c.Blocks, 1, byte(n+1)))
				k.peers(1)
			}
			if b := k.send(1, read(0, 1)); !b.told || b.r.Status != api.Good {
				t.Fatal(c, b)
			}
			k.ticks(1)
			k.peers(1)
		}
	}
}
