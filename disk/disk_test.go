package disk_test

import (
	"bytes"
	"math"
	"testing"

	"caisson/api"
	"caisson/disk"
)

func newDisk(t *testing.T, sectors int) *disk.Disk {
	t.Helper()
	d, e := disk.New(sectors)
	if e != api.OK || d == nil {
		t.Fatalf("New(%d): %v", sectors, e)
	}
	return d
}

func write(t *testing.T, d *disk.Disk, at int, b []byte) {
	t.Helper()
	if e := d.Write(at, b); e != api.OK {
		t.Fatalf("Write(%d, %d bytes): %v", at, len(b), e)
	}
}

// full is n sectors all of c.
func full(n int, c byte) []byte { return bytes.Repeat([]byte{c}, n*api.Sector) }

// firsts is the first byte of each sector.
func firsts(b []byte) []byte {
	var out []byte
	for at := 0; at < len(b); at += api.Sector {
		out = append(out, b[at])
	}
	return out
}

// P3.1: New, at its edges and beyond them.
func TestNew(t *testing.T) {
	for _, n := range []int{1, 2, 4095, api.MaxSectors} {
		d := newDisk(t, n)
		zeros := make([]byte, n*api.Sector)
		if d.Size() != n || d.Pending() != 0 || d.Dead() || !bytes.Equal(d.Image(), zeros) || !bytes.Equal(d.Now(), zeros) {
			t.Errorf("New(%d) has %d sectors", n, d.Size())
		}
	}
	for _, n := range []int{0, -1, api.MaxSectors + 1, math.MaxInt, math.MinInt, math.MaxInt/api.Sector + 2} {
		if d, e := disk.New(n); d != nil || e != api.ErrArg {
			t.Errorf("New(%d): %v", n, e)
		}
	}
}

// P3.1: Load, at its edges and beyond them.
func TestLoad(t *testing.T) {
	for _, n := range []int{1, 3, api.MaxSectors} {
		image := full(n, 7)
		image[1], image[len(image)-1] = 1, 2
		d, e := disk.Load(image)
		if e != api.OK || d.Size() != n || d.Pending() != 0 || d.Dead() || !bytes.Equal(d.Image(), image) || !bytes.Equal(d.Now(), image) {
			t.Errorf("Load of %d sectors: %v", n, e)
		}
		if e := d.Crash(nil); e != api.OK || !bytes.Equal(d.Now(), image) {
			t.Errorf("Load of %d sectors is not safe", n)
		}
	}
	for _, length := range []int{0, 1, 255, 257, 511, 513, (api.MaxSectors + 1) * api.Sector, api.MaxSectors*api.Sector + 1, api.MaxSectors*api.Sector - 1} {
		if d, e := disk.Load(make([]byte, length)); d != nil || e != api.ErrArg {
			t.Errorf("Load of %d bytes: %v", length, e)
		}
	}
	if d, e := disk.Load(nil); d != nil || e != api.ErrArg {
		t.Errorf("Load of nil: %v", e)
	}
}

// P3.1: all calls of nil.
func TestNil(t *testing.T) {
	var d *disk.Disk
	if b, e := d.Read(0, 1); b != nil || e != api.ErrNil {
		t.Error("Read", e)
	}
	for name, e := range map[string]api.Errno{"Write": d.Write(0, []byte{1}), "Flush": d.Flush(), "Fail": d.Fail(), "Crash": d.Crash([]int{1})} {
		if e != api.ErrNil {
			t.Error(name, e)
		}
	}
	if d.Size() != 0 || d.Image() != nil || d.Now() != nil || d.Pending() != 0 || d.Dead() || d.Copy() != nil {
		t.Error("a nil disk has something")
	}
}

// P1: a disk that nobody made has no sectors, and panics nowhere.
func TestZeroDisk(t *testing.T) {
	d := new(disk.Disk)
	if _, e := d.Read(0, 1); e != api.ErrArg {
		t.Error("Read", e)
	}
	if e := d.Write(0, []byte{1}); e != api.ErrArg {
		t.Error("Write", e)
	}
	if d.Flush() != api.OK || d.Crash([]int{1}) != api.OK || d.Size() != 0 || d.Copy().Size() != 0 {
		t.Error("a disk that nobody made has something")
	}
}

// P3.2: what is written is read at once, with 0 behind it in its last sector alone.
func TestWriteIsRead(t *testing.T) {
	for _, length := range []int{1, 2, 255, 256, 257, 300, 511, 512, 513, 1024} {
		d, _ := disk.Load(full(6, 9))
		b := bytes.Repeat([]byte{5}, length)
		write(t, d, 1, b)
		n := (length + 255) / 256
		want := full(6, 9)
		copy(want[256:], make([]byte, n*256))
		copy(want[256:], b)
		if got, e := d.Read(0, 6); e != api.OK || !bytes.Equal(got, want) || !bytes.Equal(d.Now(), want) {
			t.Errorf("Read behind Write of %d bytes: %v", length, e)
		}
		if got, e := d.Read(1, n); e != api.OK || !bytes.Equal(got, want[256:256+n*256]) {
			t.Errorf("Read of the sectors of %d bytes: %v", length, e)
		}
		if !bytes.Equal(d.Image(), full(6, 9)) || d.Pending() != 1 {
			t.Errorf("Write of %d bytes is safe, or %d groups", length, d.Pending())
		}
	}
}

// P3.2, P1: sectors that are not there.
func TestReadAndWriteRefuse(t *testing.T) {
	d, _ := disk.Load(full(4, 9))
	for _, c := range [][2]int{
		{0, 0}, {0, -1}, {-1, 1}, {-1, 2}, {0, 5}, {4, 1}, {3, 2}, {5, 1}, {1, 4}, {4, 0}, {-4, 4},
		{math.MaxInt, 1}, {math.MaxInt, math.MaxInt}, {1, math.MaxInt}, {math.MinInt, 1}, {math.MinInt, math.MinInt}, {0, math.MinInt}, {math.MinInt, math.MaxInt}, {math.MaxInt - 1, 3},
		{math.MaxInt / api.Sector, 1}, {math.MaxInt/api.Sector + 1, 1},
	} {
		if b, e := d.Read(c[0], c[1]); b != nil || e != api.ErrArg {
			t.Errorf("Read(%d, %d): %v", c[0], c[1], e)
		}
	}
	for _, c := range [][2]int{
		{0, 0}, {3, 0}, {-1, 1}, {4, 1}, {3, 257}, {0, 1025}, {1, 769}, {-1, 512}, {5, 1}, {0, 1 << 20},
		{math.MaxInt, 1}, {math.MinInt, 1}, {math.MaxInt, 512}, {math.MaxInt / api.Sector, 1},
	} {
		if e := d.Write(c[0], make([]byte, c[1])); e != api.ErrArg {
			t.Errorf("Write(%d, %d bytes): %v", c[0], c[1], e)
		}
	}
	if e := d.Write(0, nil); e != api.ErrArg {
		t.Error("Write of nil", e)
	}
	if d.Pending() != 0 || !bytes.Equal(d.Now(), full(4, 9)) {
		t.Error("a refused write has changed something")
	}
	for _, c := range [][2]int{{0, 1}, {0, 4}, {3, 1}, {1, 3}} {
		if b, e := d.Read(c[0], c[1]); e != api.OK || len(b) != c[1]*api.Sector {
			t.Errorf("Read(%d, %d): %v", c[0], c[1], e)
		}
		if e := d.Write(c[0], make([]byte, c[1]*api.Sector)); e != api.OK {
			t.Errorf("Write(%d, %d sectors): %v", c[0], c[1], e)
		}
	}
}

// P3.2: a flush makes all groups safe, the last one written over the others.
func TestFlush(t *testing.T) {
	d := newDisk(t, 4)
	write(t, d, 0, full(3, 1))
	write(t, d, 2, full(2, 2))
	write(t, d, 1, []byte{3})
	if d.Pending() != 3 || !bytes.Equal(firsts(d.Image()), []byte{0, 0, 0, 0}) {
		t.Errorf("%d groups; safe ahead of a flush: %v", d.Pending(), firsts(d.Image()))
	}
	if e := d.Flush(); e != api.OK || d.Pending() != 0 || d.Dead() {
		t.Errorf("Flush: %v, %d groups", e, d.Pending())
	}
	want := full(4, 0)
	copy(want, full(1, 1))
	want[256] = 3
	copy(want[512:], full(2, 2))
	if !bytes.Equal(d.Image(), want) || !bytes.Equal(d.Now(), want) {
		t.Errorf("behind a flush: %v safe, %v read", firsts(d.Image()), firsts(d.Now()))
	}
	if e := d.Flush(); e != api.OK || !bytes.Equal(d.Image(), want) {
		t.Errorf("a flush of nothing: %v", e)
	}
}

// P3.2, P3.3: a flush that fails makes nothing safe, and the disk is dead till it crashes.
func TestFail(t *testing.T) {
	d := newDisk(t, 2)
	write(t, d, 0, full(1, 1))
	if e := d.Fail(); e != api.OK || d.Dead() || d.Pending() != 1 {
		t.Errorf("Fail: %v", e)
	}
	write(t, d, 1, full(1, 2))
	if e := d.Flush(); e != api.ErrFlush || !d.Dead() || d.Pending() != 2 || !bytes.Equal(d.Image(), full(2, 0)) {
		t.Errorf("Flush: %v, dead %v, %d groups", e, d.Dead(), d.Pending())
	}
	if e := d.Flush(); e != api.ErrDead {
		t.Errorf("Flush of a dead disk: %v", e)
	}
	for _, c := range [][2]int{{0, 1}, {0, 0}, {9, 1}} { // dead comes first, also of what can not be
		if e := d.Write(c[0], make([]byte, c[1])); e != api.ErrDead {
			t.Errorf("Write(%d, %d bytes) of a dead disk: %v", c[0], c[1], e)
		}
	}
	if b, e := d.Read(0, 2); e != api.OK || !bytes.Equal(firsts(b), []byte{1, 2}) || d.Pending() != 2 {
		t.Errorf("Read of a dead disk: %v %v", firsts(b), e)
	}
	if e := d.Fail(); e != api.OK {
		t.Errorf("Fail of a dead disk: %v", e)
	}
	if e := d.Crash([]int{0, 1}); e != api.OK || d.Dead() || d.Pending() != 0 || !bytes.Equal(firsts(d.Now()), []byte{0, 2}) {
		t.Errorf("Crash: %v, dead %v, %v", e, d.Dead(), firsts(d.Now()))
	}
	write(t, d, 0, []byte{3})
	if e := d.Flush(); e != api.OK || !bytes.Equal(firsts(d.Image()), []byte{3, 2}) {
		t.Errorf("Flush behind a crash: %v", e)
	}
}

// P3.2: a flush with nothing to do fails, too; P3.3: a crash takes a failing back that nobody met.
func TestFailOfNothing(t *testing.T) {
	d := newDisk(t, 1)
	d.Fail()
	d.Crash(nil)
	if e := d.Flush(); e != api.OK || d.Dead() {
		t.Errorf("Flush behind Fail and a crash: %v", e)
	}
	d.Fail()
	if e := d.Flush(); e != api.ErrFlush || !d.Dead() {
		t.Errorf("Flush of nothing behind Fail: %v", e)
	}
}

// P3.3: the document's example.
func TestCrashTearsAGroup(t *testing.T) {
	d := newDisk(t, 4)
	write(t, d, 0, bytes.Repeat([]byte{1}, 300))
	if e := d.Crash([]int{2}); e != api.OK {
		t.Fatal(e)
	}
	want := make([]byte, 4*256)
	copy(want[256:], bytes.Repeat([]byte{1}, 44))
	if !bytes.Equal(d.Now(), want) || !bytes.Equal(d.Image(), want) || d.Pending() != 0 {
		t.Errorf("behind the crash: %v", firsts(d.Now()))
	}
}

// P3.3: which sectors of one group a number keeps; the bits go round behind 16.
func TestCrashKeepsByBits(t *testing.T) {
	for _, kept := range []int{0, 1, 2, 3, 0x8000, 0x10000, 0x18001, 0xffff, 0x5555, -1, -2, math.MinInt, math.MaxInt, -0x8000} {
		d, _ := disk.Load(full(40, 9))
		write(t, d, 2, full(36, 5))
		if e := d.Crash([]int{kept}); e != api.OK {
			t.Fatal(e)
		}
		want := bytes.Repeat([]byte{9}, 40)
		for k := range 36 {
			if uint16(kept)&(1<<(k%16)) != 0 {
				want[2+k] = 5
			}
		}
		if !bytes.Equal(firsts(d.Now()), want) || !bytes.Equal(d.Now(), d.Image()) {
			t.Errorf("kept %x: %v, not %v", kept, firsts(d.Now()), want)
		}
	}
}

// P3.3: groups in their order; numbers that are missing are 0, and those too many are nobody's.
func TestCrashOfSomeGroups(t *testing.T) {
	for _, c := range []struct {
		kept []int
		want []byte
	}{
		{nil, []byte{9, 9, 9}},
		{[]int{}, []byte{9, 9, 9}},
		{[]int{1}, []byte{1, 9, 9}},
		{[]int{3}, []byte{1, 1, 9}},
		{[]int{0, 1}, []byte{9, 2, 9}},
		{[]int{0, 3}, []byte{9, 2, 2}},
		{[]int{3, 1}, []byte{1, 2, 9}},
		{[]int{3, 2}, []byte{1, 1, 2}},
		{[]int{-1, -1}, []byte{1, 2, 2}},
		{[]int{0, 0, 1}, []byte{9, 3, 9}},
		{[]int{-1, -1, -1}, []byte{1, 3, 2}},
		{[]int{-1, -1, -1, -1, -1}, []byte{1, 3, 2}},
		{[]int{0, 0, 0, -1}, []byte{9, 9, 9}},
	} {
		d, _ := disk.Load(full(3, 9))
		write(t, d, 0, full(2, 1))
		write(t, d, 1, full(2, 2))
		write(t, d, 1, full(1, 3))
		if e := d.Crash(c.kept); e != api.OK || !bytes.Equal(firsts(d.Now()), c.want) || !bytes.Equal(d.Image(), d.Now()) || d.Pending() != 0 {
			t.Errorf("Crash(%v): %v, %v, not %v", c.kept, e, firsts(d.Now()), c.want)
		}
		if e := d.Crash([]int{-1, -1, -1}); e != api.OK || !bytes.Equal(firsts(d.Now()), c.want) {
			t.Errorf("a second crash behind Crash(%v) brings something back", c.kept)
		}
	}
}
