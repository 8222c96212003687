package wal_test

import (
	"bytes"
	"encoding/binary"
	"hash/crc32"
	"math"
	"math/rand"
	"strings"
	"testing"

	"caisson/api"
	"caisson/disk"
	"caisson/wal"
)

// numbers is each of them in 8 bytes.
func numbers(l ...int64) []byte {
	var b []byte
	for _, n := range l {
		b = binary.BigEndian.AppendUint64(b, uint64(n))
	}
	return b
}

func summed(b []byte) []byte {
	return append(binary.BigEndian.AppendUint32(nil, crc32.Checksum(b, crc32.MakeTable(crc32.Castagnoli))), b...)
}

func summedSector(b []byte) []byte { return summed(append(b, make([]byte, 252-len(b))...)) }

func slot(epoch, term, voteAndOne, base int64) []byte {
	return summedSector(numbers(epoch, term, voteAndOne, base))
}

func head(life, first, epoch int64) []byte { return summedSector(numbers(life, first, epoch)) }

func record(life, number, epoch int64, b string) []byte {
	return summed(append(binary.BigEndian.AppendUint32(numbers(life, number, epoch), uint32(len(b))), b...))
}

// lay writes b into the sectors of d from at on.
func lay(t *testing.T, d *disk.Disk, at int, b []byte) {
	t.Helper()
	if e := d.Write(at, b); e != api.OK {
		t.Fatalf("Write(%d, %d bytes): %v", at, len(b), e)
	}
}

func sectorIs(t *testing.T, d *disk.Disk, at int, want []byte) {
	t.Helper()
	n := (len(want) + 255) / 256
	got, e := d.Read(at, n)
	if e != api.OK || !bytes.Equal(got, append(want, make([]byte, n*256-len(want))...)) {
		t.Errorf("the sector %d: %x, not %x", at, got, want)
	}
}

// What stands on the disk, byte by byte; P4.2: a head and each record are a group of their own; P4.3: what writes the meta record.
func TestBytesOnTheDisk(t *testing.T) {
	const from, segs, per = 3, 2, 4
	d := newDisk(t, 20)
	l, _, _ := opened(t, d, from, segs, per)
	sectorIs(t, d, from, make([]byte, 256))
	sectorIs(t, d, from+1, slot(1, 0, 0, 0))
	long := strings.Repeat("long", 100)
	add(t, l, "a,"+long)
	if d.Pending() != 3 {
		t.Error("groups of a head and two records:", d.Pending())
	}
	sectorIs(t, d, from+2, head(1, 1, 1))
	sectorIs(t, d, from+3, record(1, 1, 1, "a"))
	sectorIs(t, d, from+4, record(1, 2, 1, long))
	ok(t, l.Set(6, 4))
	sectorIs(t, d, from, slot(2, 6, 5, 0))
	sectorIs(t, d, from+1, slot(1, 0, 0, 0))
	ok(t, l.Set(7, -1))
	sectorIs(t, d, from+1, slot(3, 7, 0, 0))
	add(t, l, "c") // no room: a segment with the epoch of now
	if d.Pending() != 2 {
		t.Error("groups of a head and a record:", d.Pending())
	}
	sectorIs(t, d, from+6, head(2, 3, 3))
	sectorIs(t, d, from+7, record(2, 3, 3, "c"))
	ok(t, l.Set(8, 0))
	add(t, l, "d") // the epoch of the head, not that of now
	sectorIs(t, d, from+8, record(2, 4, 3, "d"))
	ok(t, l.Drop(3))
	sectorIs(t, d, from+1, slot(5, 8, 1, 3))
	ok(t, l.Cut(4))
	sectorIs(t, d, from, slot(6, 8, 1, 3))
	add(t, l, "D")
	sectorIs(t, d, from+2, head(3, 4, 6))
	sectorIs(t, d, from+3, record(3, 4, 6, "D"))
	sectorIs(t, d, from+4, record(1, 2, 1, long))
	ok(t, l.Flush())
	l, _, _ = opened(t, d, from, segs, per)
	sectorIs(t, d, from+1, slot(7, 8, 1, 3))
	ok(t, l.Drop(4))
	add(t, l, "") // one segment is in use: the one that was there is left as it is
	sectorIs(t, d, from+6, head(4, 5, 8))
	sectorIs(t, d, from+7, record(4, 5, 8, ""))
}

// The meta record: the right slot with the greater epoch; which slots are right.
func TestSlots(t *testing.T) {
	none := wal.Meta{Vote: -1}
	seven := wal.Meta{Term: 7, Vote: 1, Base: 0}
	right := slot(5, 7, 2, 0)
	broken := bytes.Clone(right)
	broken[200] ^= 1
	noSum := append(make([]byte, 4), right[4:]...)
	extra := summed(append(numbers(5, 7, 2, 0), bytes.Repeat([]byte{9}, 220)...))
	for i, c := range []struct {
		first, second []byte
		want          wal.Meta
		epoch         int64 // that is written then
	}{
		{nil, nil, none, 1},
		{right, nil, seven, 6},
		{nil, right, seven, 6},
		{right, slot(4, 1, 1, 0), seven, 6},
		{slot(4, 1, 1, 0), right, seven, 6},
		{slot(6, 1, 1, 0), right, wal.Meta{Term: 1}, 7},
		{right, slot(6, 1, 1, 0), wal.Meta{Term: 1}, 7},
		{broken, nil, none, 1},
		{noSum, nil, none, 1},
		{extra, nil, seven, 6},
		{broken, slot(4, 1, 1, 0), wal.Meta{Term: 1}, 5},
		{slot(0, 7, 2, 0), nil, none, 1},
		{slot(1, 7, 2, 0), nil, seven, 2},
		{slot(-1, 7, 2, 0), nil, none, 1},
		{slot(greatest, 7, 2, 0), nil, seven, greatest + 1},
		{slot(greatest+1, 7, 2, 0), nil, none, 1},
		{slot(5, -1, 2, 0), nil, none, 1},
		{slot(5, 0, 2, 0), nil, wal.Meta{Term: 0, Vote: 1}, 6},
		{slot(5, greatest, 2, 0), nil, wal.Meta{Term: greatest, Vote: 1}, 6},
		{slot(5, greatest+1, 2, 0), nil, none, 1},
		{slot(5, 7, 0, 0), nil, wal.Meta{Term: 7, Vote: -1}, 6},
		{slot(5, 7, -1, 0), nil, none, 1},
		{slot(5, 7, math.MinInt64, 0), nil, none, 1},
		{slot(5, 7, 5, 0), nil, wal.Meta{Term: 7, Vote: 4}, 6},
		{slot(5, 7, 6, 0), nil, none, 1},
		{slot(5, 7, math.MaxInt64, 0), nil, none, 1},
		{slot(5, 7, 2, -1), nil, none, 1},
		{slot(5, 7, 2, 11), nil, wal.Meta{Term: 7, Vote: 1, Base: 11}, 6},
		{slot(5, 7, 2, greatest), nil, wal.Meta{Term: 7, Vote: 1, Base: greatest}, 6},
		{slot(5, 7, 2, greatest+1), nil, none, 1},
	} {
		d := newDisk(t, 10)
		lay(t, d, 0, append(c.first, make([]byte, 256-len(c.first))...))
		lay(t, d, 1, append(c.second, make([]byte, 256-len(c.second))...))
		l, records, m := opened(t, d, 0, 2, 4)
		if m != c.want || records != "" || l.Next() != c.want.Base+1 || l.Segments() != 0 {
			t.Errorf("slots %d: %v, not %v", i, m, c.want)
		}
		sectorIs(t, d, int(c.epoch%2), slot(c.epoch, m.Term, int64(m.Vote)+1, m.Base))
		add(t, l, "x") // at the greatest numbers, too
	}
}

// Heads: which are right, and which one begins the chain.
func TestHeads(t *testing.T) {
	broken := head(1, 1, 1)
	broken[255] ^= 1
	for i, c := range []struct {
		base     int64
		heads    [3][]byte // each of its segment, with one record "0", "1", "2" behind it
		want     string
		next     int64
		segments int
	}{
		{0, [3][]byte{}, "", 1, 0},
		{0, [3][]byte{head(1, 1, 1)}, "0", 2, 1},
		{0, [3][]byte{broken}, "", 1, 0},
		{0, [3][]byte{head(0, 1, 1)}, "", 1, 0},
		{0, [3][]byte{head(-2, 1, 1)}, "", 1, 0},
		{0, [3][]byte{head(2, 1, 1)}, "", 1, 0}, // not in its segment
		{0, [3][]byte{nil, head(1, 1, 1)}, "", 1, 0},
		{0, [3][]byte{nil, head(2, 1, 1)}, "1", 2, 1},
		{0, [3][]byte{head(4, 1, 1)}, "0", 2, 1},
		{0, [3][]byte{head(greatest, 1, 1)}, "0", 2, 1}, // 2^60 - 1 is a multiple of 3
		{0, [3][]byte{head(greatest+3, 1, 1)}, "", 1, 0},
		{0, [3][]byte{head(1, 0, 1)}, "", 1, 0},
		{0, [3][]byte{head(1, -1, 1)}, "", 1, 0},
		{0, [3][]byte{head(1, 2, 1)}, "", 1, 0}, // above the base and 1
		{1, [3][]byte{head(1, 2, 1)}, "0", 3, 1},
		{1, [3][]byte{head(1, 1, 1)}, "", 2, 1},
		{2, [3][]byte{head(1, 1, 1)}, "", 3, 0}, // the next number is not above the base
		{greatest, [3][]byte{head(1, greatest, 1)}, "", greatest + 1, 1},
		{greatest, [3][]byte{head(1, greatest+1, 1)}, "", greatest + 1, 0},
		{0, [3][]byte{head(1, 1, 0)}, "", 1, 0},
		{0, [3][]byte{head(1, 1, -1)}, "", 1, 0},
		{0, [3][]byte{head(1, 1, greatest)}, "0", 2, 1},
		{0, [3][]byte{head(1, 1, greatest+1)}, "", 1, 0},
		// one behind the other
		{0, [3][]byte{head(1, 1, 1), head(2, 2, 1), head(3, 3, 1)}, "0,1,2", 4, 3},
		{0, [3][]byte{head(1, 1, 1), head(2, 2, 2), head(3, 3, 2)}, "0,1,2", 4, 3},
		{0, [3][]byte{head(1, 1, 2), head(2, 2, 1), head(3, 3, 3)}, "0", 2, 1}, // an epoch below
		{0, [3][]byte{head(1, 1, 1), nil, head(3, 3, 1)}, "0", 2, 1},
		{0, [3][]byte{head(1, 1, 1), head(5, 2, 1), head(3, 3, 1)}, "0", 2, 1},            // not the next life
		{0, [3][]byte{head(1, 1, 1), head(2, 3, 1), head(3, 3, 1)}, "0", 2, 1},            // behind the next number
		{3, [3][]byte{head(4, 5, 1), head(2, 3, 1), head(3, 4, 1)}, "2,0", 6, 2},          // round, and those below the base left out
		{1, [3][]byte{head(1, 2, 1), head(2, 1, 1)}, "", 2, 1},                            // the greatest life begins it
		{0, [3][]byte{head(1, 1, 2), head(2, 1, 1)}, "0", 2, 1},                           // the greatest epoch first
		{0, [3][]byte{head(4, 1, 1), head(2, 1, 2)}, "1", 2, 1},                           // whatever the life
		{1, [3][]byte{head(4, 1, 2), head(2, 2, 2), head(3, 1, 2)}, "", 2, 1},             // of one epoch the greatest life
		{1, [3][]byte{head(1, 2, 2), head(2, 3, 2), head(3, 2, 2)}, "2", 3, 1},            // ..
		{0, [3][]byte{head(1, 1, 1), head(2, 2, 1), head(3, 2, 1)}, "0,2", 3, 3},          // one takes a record of another away
		{1, [3][]byte{head(1, 2, 2), head(2, 3, 2), head(3, 1, 3)}, "", 2, 1},             // the base is reached by the last one alone
		{1, [3][]byte{head(7, 2, 2), head(8, 3, 2), head(9, 4, 2)}, "0,1,2", 5, 3},        // it does not begin at life 1
		{0, [3][]byte{head(1, 1, 1), head(2, 2, 1), head(3, 1, greatest)}, "2", 2, 1},     // a later epoch begins it anew
		{2, [3][]byte{head(1, 3, 1), head(2, 4, 1), head(3, 5, 1)}, "0,1,2", 6, 3},        // all behind the base
		{3, [3][]byte{head(1, 3, 1), head(2, 5, 1), head(3, 5, 1)}, "", 4, 1},             // a gap
		{2, [3][]byte{head(1, 3, 1), head(2, 4, 1), head(3, 3, 5)}, "2", 4, 1},            // ..
		{0, [3][]byte{head(1, 1, 1), head(2, 2, 1), head(3, 3, greatest+1)}, "0,1", 3, 2}, // a head that is not right
	} {
		d := newDisk(t, 12)
		lay(t, d, 1, slot(1, 0, 0, c.base))
		for s, h := range c.heads {
			if h == nil {
				continue
			}
			n := func(at int) int64 { return int64(binary.BigEndian.Uint64(h[at:])) }
			lay(t, d, 2+3*s, h)
			lay(t, d, 3+3*s, record(n(4), n(12), n(20), string(rune('0'+s))))
		}
		l, records, _ := opened(t, d, 0, 3, 3)
		if records != c.want || l.Next() != c.next || l.Segments() != c.segments {
			t.Errorf("heads %d: %q, next %d, segments %d, not %q, %d, %d", i, records, l.Next(), l.Segments(), c.want, c.next, c.segments)
		}
	}
}

// Records: when one stands where it is, and when not; those behind it are not read then.
func TestRecords(t *testing.T) {
	spoilt := func(b []byte, at int) []byte {
		b[at] ^= 0x10
		return b
	}
	longer := record(4, 12, 3, "x")
	binary.BigEndian.PutUint32(longer[28:], math.MaxUint32)
	most := strings.Repeat("m", api.MaxRecord)
	for i, c := range []struct {
		second []byte
		want   string
	}{
		{record(4, 12, 3, "x"), "a,x,c"},
		{spoilt(record(4, 12, 3, "x"), 0), "a"},
		{spoilt(record(4, 12, 3, "x"), 32), "a"},
		{spoilt(record(4, 12, 3, "x"), 31), "a"},
		{append(record(4, 12, 3, "x"), 9, 9, 9), "a,x,c"}, // what stands behind it is not looked at
		{record(3, 12, 3, "x"), "a"},
		{record(7, 12, 3, "x"), "a"},
		{record(4, 11, 3, "x"), "a"},
		{record(4, 13, 3, "x"), "a"},
		{record(4, 12, 2, "x"), "a"},
		{record(4, 12, 4, "x"), "a"},
		{record(4, 12, 3, ""), "a,,c"},
		{longer, "a"},
		{summed(longer[4:]), "a"},
		{make([]byte, 256), "a"},
		{record(4, 12, 3, most), "a," + most},
		{record(4, 12, 3, most+"m"), "a"},
	} {
		d := newDisk(t, 2+3*64)
		lay(t, d, 1, slot(3, 0, 0, 10))
		lay(t, d, 2, head(4, 11, 3))
		lay(t, d, 3, record(4, 11, 3, "a"))
		lay(t, d, 5, record(4, 13, 3, "c"))
		lay(t, d, 4, c.second)
		if _, records, _ := opened(t, d, 0, 3, 64); records != c.want {
			t.Errorf("record %d: %.40q, not %.40q", i, records, c.want)
		}
	}
}

// A record has to end within its segment, whatever stands behind that.
func TestRecordWithinItsSegment(t *testing.T) {
	for length, want := range map[int]bool{224: true, 225: true, 480: true, 481: false, 700: false} {
		d := newDisk(t, 12)
		b := strings.Repeat("y", length)
		lay(t, d, 1, slot(3, 0, 0, 0))
		lay(t, d, 2, head(1, 1, 3))
		lay(t, d, 3, record(1, 1, 3, b))
		_, records, _ := opened(t, d, 0, 3, 3)
		if (records == b) != want || records != b && records != "" {
			t.Errorf("a record of %d bytes in two sectors: %d bytes", length, len(records))
		}
	}
	d := newDisk(t, 12) // in the last segment, too, behind which the area ends
	lay(t, d, 1, slot(3, 0, 0, 0))
	lay(t, d, 8, head(3, 1, 3))
	lay(t, d, 9, record(3, 1, 3, "a"))
	lay(t, d, 10, record(3, 2, 3, strings.Repeat("y", 225)))
	if _, records, _ := opened(t, d, 0, 3, 3); records != "a" {
		t.Error("the last segment", records)
	}
}

// plainChain reads the chain in another way than the program: number by number, over a map.
func plainChain(d *disk.Disk, segs, per int, base int64) (string, int64, int) {
	b := d.Now()
	num := func(at int) int64 { return int64(binary.BigEndian.Uint64(b[at:])) }
	right := func(from, to int) bool {
		return to <= len(b) && bytes.Equal(summed(b[from+4 : to])[:4], b[from:from+4])
	}
	headAt := func(s int) int { return (2 + s*per) * 256 }
	isHead := func(s int) bool {
		at := headAt(s)
		return right(at, at+256) && num(at+4) >= 1 && int((num(at+4)-1)%int64(segs)) == s && num(at+12) >= 1 && num(at+20) >= 1
	}
	best := -1
	for s := range segs {
		if !isHead(s) || num(headAt(s)+12) > base+1 {
			continue
		}
		if best < 0 || num(headAt(s)+20) > num(headAt(best)+20) || num(headAt(s)+20) == num(headAt(best)+20) && num(headAt(s)+4) > num(headAt(best)+4) {
			best = s
		}
	}
	if best < 0 {
		return "", base + 1, 0
	}
	first, next, count := num(headAt(best)+12), num(headAt(best)+12), 0
	found := map[int64]string{}
	for s := best; ; s = (s + 1) % segs {
		at := headAt(s)
		next = num(at + 12)
		for sector := 1; sector < per; {
			r := at + sector*256
			length := int(binary.BigEndian.Uint32(b[r+28:]))
			size := (32 + length + 255) / 256
			if length > 4096 || sector+size > per || !right(r, r+32+length) || num(r+4) != num(at+4) || num(r+12) != next || num(r+20) != num(at+20) {
				break
			}
			found[next] = string(b[r+32 : r+32+length])
			next, sector = next+1, sector+size
		}
		count++
		then := (s + 1) % segs
		to := headAt(then)
		if count == segs || !isHead(then) || num(to+4) != num(at+4)+1 || num(to+20) < num(at+20) || num(to+12) < first || num(to+12) > next {
			break
		}
	}
	if next <= base {
		return "", base + 1, 0
	}
	var out []string
	for i := base + 1; i < next; i++ {
		out = append(out, found[i])
	}
	return strings.Join(out, ","), next, count
}

// The chain of whatever stands on a disk.
func TestChainOfAnything(t *testing.T) {
	lengths := map[int]int{}
	for seed := range int64(8000) {
		r := rand.New(rand.NewSource(seed))
		segs, per := 2+r.Intn(4), 2+r.Intn(4)
		d := newDisk(t, 2+segs*per)
		base := r.Int63n(4)
		lay(t, d, 1, slot(1, 0, 0, base))
		life, first, epoch := 1+r.Int63n(4), 1+r.Int63n(2), 1+r.Int63n(2)
		for range segs + r.Intn(2) {
			s := int((life - 1) % int64(segs))
			lay(t, d, 2+s*per, head(life, first, epoch))
			at, number := 1, first
			for at < per && r.Intn(5) > 0 {
				b := record(life, number, epoch, strings.Repeat(string(rune('a'+r.Intn(26))), r.Intn(2)*r.Intn(300)))
				if size := (len(b) + 255) / 256; at+size > per {
					break
				}
				lay(t, d, 2+s*per+at, b)
				at, number = at+(len(b)+255)/256, number+1
			}
			life++
			first = max(1, number-int64(r.Intn(6)/4)+int64(r.Intn(8)/7))
			epoch = max(1, epoch+int64(r.Intn(8)/5)-int64(r.Intn(8)/7))
		}
		for range r.Intn(2) { // a bit that is wrong
			at := r.Intn(len(d.Now()))
			b, _ := d.Read(at/256, 1)
			b[at%256] ^= 1
			lay(t, d, at/256, b)
		}
		_, _, m := opened(t, d.Copy(), 0, segs, per)
		want, next, segments := plainChain(d, segs, per, m.Base)
		l, records, _ := opened(t, d, 0, segs, per)
		if records != want || l.Next() != next || l.Segments() != segments {
			t.Fatalf("seed %d: %q, next %d, segments %d, not %q, %d, %d", seed, records, l.Next(), l.Segments(), want, next, segments)
		}
		lengths[segments]++
	}
	for segments := range 6 {
		if lengths[segments] < 10 {
			t.Error("too few chains of segments:", segments, lengths[segments])
		}
	}
}

// P1: any bytes are read, and go on being a log.
func TestOpenOfNoise(t *testing.T) {
	r := rand.New(rand.NewSource(1))
	for range 200 {
		b := make([]byte, 14*api.Sector)
		r.Read(b)
		d, _ := disk.Load(b)
		l, records, m := opened(t, d, 1, 3, 3)
		if records != "" || m != (wal.Meta{Vote: -1}) || l.Segments() != 0 {
			t.Fatal("noise is read as a log", records, m)
		}
		add(t, l, "a,b,c")
		if _, records, _ := opened(t, d, 1, 3, 3); records != "a,b,c" {
			t.Fatal("behind noise", records)
		}
	}
}
