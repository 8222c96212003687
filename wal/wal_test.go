package wal_test

import (
	"bytes"
	"math"
	"slices"
	"strings"
	"testing"

	"caisson/api"
	"caisson/disk"
	"caisson/wal"
)

const (
	slots    = 2
	greatest = int64(1) << 60
)

func newDisk(t *testing.T, sectors int) *disk.Disk {
	t.Helper()
	d, e := disk.New(sectors)
	if e != api.OK {
		t.Fatalf("New(%d): %v", sectors, e)
	}
	return d
}

// opened is the log on d, its records joined by commas, its meta record.
func opened(t *testing.T, d *disk.Disk, from, segs, per int) (*wal.Log, string, wal.Meta) {
	t.Helper()
	l, records, m, e := wal.Open(d, from, segs, per)
	if e != api.OK || l == nil || m != l.Meta() || l.Dead() {
		t.Fatalf("Open: %v", e)
	}
	if l.Next() != m.Base+1+int64(len(records)) {
		t.Fatalf("Open: next %d, with %d records above %d", l.Next(), len(records), m.Base)
	}
	return l, text(records), m
}

func text(records [][]byte) string { return string(bytes.Join(records, []byte(","))) }

// add appends each of the words.
func add(t *testing.T, l *wal.Log, words string) {
	t.Helper()
	for _, w := range strings.Split(words, ",") {
		next := l.Next()
		if n, e := l.Append([]byte(w)); e != api.OK || n != next || l.Next() != n+1 {
			t.Fatalf("Append(%q) = %d %v, next %d", w, n, e, l.Next())
		}
	}
}

func ok(t *testing.T, e api.Errno) {
	t.Helper()
	if e != api.OK {
		t.Fatal(e)
	}
}

// P4.1: the arguments of Open, at their edges and beyond them; nil comes first.
func TestOpenRefuses(t *testing.T) {
	if l, r, m, e := wal.Open(nil, -1, 0, 0); l != nil || r != nil || m != (wal.Meta{}) || e != api.ErrNil {
		t.Error("Open of nil", e)
	}
	d := newDisk(t, 100)
	before := d.Now()
	for _, c := range [][3]int{
		{-1, 2, 2}, {math.MinInt, 2, 2}, {math.MaxInt, 2, 2}, {95, 2, 2}, {100, 2, 2}, {math.MaxInt - 5, 2, 2},
		{0, 1, 2}, {0, 0, 2}, {0, -1, 2}, {0, 65, 2}, {0, math.MaxInt, 2}, {0, math.MinInt, 2}, {0, 1, 64},
		{0, 2, 1}, {0, 2, 0}, {0, 2, -1}, {0, 2, 65}, {0, 2, math.MaxInt}, {0, 2, math.MinInt}, {0, 64, 1},
		{0, 2, 50}, {0, 64, 64}, {1, 2, 49}, {0, math.MaxInt, math.MaxInt}, {0, math.MinInt, math.MinInt}, {0, -2, -2}, {0, -64, -64},
	} {
		if l, r, m, e := wal.Open(d, c[0], c[1], c[2]); l != nil || r != nil || m != (wal.Meta{}) || e != api.ErrArg {
			t.Errorf("Open of %v: %v", c, e)
		}
	}
	if !bytes.Equal(d.Now(), before) || d.Pending() != 0 {
		t.Error("a refused Open has written")
	}
	for _, c := range [][3]int{{0, 2, 2}, {94, 2, 2}, {0, 2, 49}, {0, 49, 2}, {34, 32, 2}, {34, 2, 32}} {
		opened(t, d.Copy(), c[0], c[1], c[2])
	}
	large := newDisk(t, api.MaxSectors)
	if _, _, _, e := wal.Open(large, 0, 64, 64); e != api.ErrArg {
		t.Error("Open of more than the greatest disk", e)
	}
	opened(t, large, 0, 64, 63)
	opened(t, large, 62, 63, 64)
}

// P4.1: an error of the disk is Open's; then there is nothing else.
func TestOpenOnAFailingDisk(t *testing.T) {
	d := newDisk(t, 10)
	d.Fail()
	if l, r, m, e := wal.Open(d, 0, 2, 4); l != nil || r != nil || m != (wal.Meta{}) || e != api.ErrFlush {
		t.Error("Open with a flush that fails", e)
	}
	if l, r, m, e := wal.Open(d, 0, 2, 4); l != nil || r != nil || m != (wal.Meta{}) || e != api.ErrDead {
		t.Error("Open of a dead disk", e)
	}
	if _, _, _, e := wal.Open(d, -1, 2, 4); e != api.ErrArg {
		t.Error("Open of a dead disk, of nothing that can be", e)
	}
}

// P4.1, P4.4: a disk on which nothing stands.
func TestOpenOfNothing(t *testing.T) {
	d := newDisk(t, 10)
	l, records, m := opened(t, d, 0, 2, 4)
	if records != "" || m != (wal.Meta{Vote: -1}) || l.Next() != 1 || l.Segments() != 0 || d.Pending() != 0 {
		t.Error("Open of nothing", records, m, l.Next(), l.Segments())
	}
}

// P4.1: all calls of nil.
func TestNil(t *testing.T) {
	var l *wal.Log
	if n, e := l.Append(nil); n != 0 || e != api.ErrNil {
		t.Error("Append", n, e)
	}
	for name, e := range map[string]api.Errno{"Flush": l.Flush(), "Cut": l.Cut(1), "Drop": l.Drop(0), "Set": l.Set(-1, 9)} {
		if e != api.ErrNil {
			t.Error(name, e)
		}
	}
	if l.Next() != 0 || l.Meta() != (wal.Meta{}) || l.Segments() != 0 || l.Dead() {
		t.Error("a nil log has something")
	}
}

// P1: a log that nobody opened panics nowhere.
func TestZeroLog(t *testing.T) {
	for _, call := range []func(l *wal.Log) api.Errno{
		func(l *wal.Log) api.Errno { _, e := l.Append([]byte("a")); return e },
		func(l *wal.Log) api.Errno { return l.Flush() },
		func(l *wal.Log) api.Errno { return l.Cut(0) },
		func(l *wal.Log) api.Errno { return l.Cut(1) },
		func(l *wal.Log) api.Errno { return l.Drop(0) },
		func(l *wal.Log) api.Errno { return l.Set(1, 1) },
	} {
		if e := call(new(wal.Log)); e == api.OK {
			t.Error("a log that nobody opened does something")
		}
	}
}

// P4.2, P4.3: the document's example. By P4.2 five more go: two into the segment of "d", and three into the one that is free again.
func TestExample(t *testing.T) {
	d := newDisk(t, 10)
	l, _, _ := opened(t, d, 0, 2, 4)
	add(t, l, "a")
	if d.Pending() != 2 {
		t.Error("the first record wrote groups:", d.Pending())
	}
	add(t, l, "b,c")
	if l.Segments() != 1 {
		t.Error("three records are in segments:", l.Segments())
	}
	add(t, l, "d")
	if l.Segments() != 2 {
		t.Error("four records are in segments:", l.Segments())
	}
	if e := l.Drop(3); e != api.OK || l.Segments() != 1 {
		t.Error("Drop(3)", e, l.Segments())
	}
	add(t, l, "e,f,g,h,i")
	if n, e := l.Append([]byte("j")); n != 0 || e != api.ErrFull || l.Next() != 10 || l.Segments() != 2 || l.Dead() {
		t.Error("Append to a full log", n, e)
	}
	if _, records, _ := opened(t, d, 0, 2, 4); records != "d,e,f,g,h,i" {
		t.Error("opened again", records)
	}
}

// P4.2: lengths at their edges: what fits into a segment, and what is longer than any record.
func TestAppendSizes(t *testing.T) {
	for _, c := range []struct {
		per, length int
		want        api.Errno
	}{
		{2, 0, api.OK}, {2, 224, api.OK}, {2, 225, api.ErrSize}, {3, 225, api.OK}, {3, 480, api.OK}, {3, 481, api.ErrSize},
		{17, 4064, api.OK}, {17, 4065, api.ErrSize}, {18, 4065, api.OK}, {18, 4096, api.OK}, {18, 4097, api.ErrSize},
		{64, 4096, api.OK}, {64, 4097, api.ErrSize}, {64, 5000, api.ErrSize}, {64, 1 << 20, api.ErrSize},
	} {
		d := newDisk(t, slots+3*c.per)
		l, _, _ := opened(t, d, 0, 3, c.per)
		b := bytes.Repeat([]byte{7}, c.length)
		for i := range int64(3) {
			n, e := l.Append(b)
			if e != c.want || (e == api.OK) != (n == i+1) || e != api.OK && (n != 0 || l.Next() != 1 || l.Segments() != 0 || d.Pending() != 0) {
				t.Fatalf("Append of %d bytes to segments of %d: %d %v", c.length, c.per, n, e)
			}
		}
		_, records, _, e := wal.Open(d, 0, 3, c.per)
		want := 3
		if c.want != api.OK {
			want = 0
		}
		if e != api.OK || len(records) != want || want > 0 && !bytes.Equal(records[2], b) {
			t.Errorf("%d records of %d bytes are read, not %d", len(records), c.length, want)
		}
	}
}

// P4.2: too long comes ahead of full.
func TestErrorsOfAppendInTheirOrder(t *testing.T) {
	d := newDisk(t, 6)
	l, _, _ := opened(t, d, 0, 2, 2)
	add(t, l, "a,b")
	if _, e := l.Append(make([]byte, 225)); e != api.ErrSize {
		t.Error("too long for a full log", e)
	}
	if _, e := l.Append(nil); e != api.ErrFull {
		t.Error("full", e)
	}
	d.Fail()
	l.Flush()
	if _, e := l.Append(make([]byte, 225)); e != api.ErrDead {
		t.Error("too long for a dead log", e)
	}
}

// P4.2: a record that does not fit behind the others begins a segment, though a shorter one would have gone.
func TestAppendLeavesRoomUnused(t *testing.T) {
	d := newDisk(t, 12)
	l, _, _ := opened(t, d, 0, 2, 5)
	long := strings.Repeat("x", 300)
	add(t, l, "a,"+long+","+long)
	if l.Segments() != 2 {
		t.Error("segments", l.Segments())
	}
	add(t, l, "b,c")
	if _, e := l.Append([]byte("d")); e != api.ErrFull {
		t.Error("full", e)
	}
	if _, records, _ := opened(t, d, 0, 2, 5); records != "a,"+long+","+long+",b,c" {
		t.Error("opened again", records)
	}
}

// P4.1: nothing is appended to a segment that was there.
func TestOpenBeginsANewSegment(t *testing.T) {
	d := newDisk(t, 20)
	l, _, _ := opened(t, d, 5, 3, 4)
	add(t, l, "a")
	ok(t, l.Flush())
	for i, want := range []string{"a", "a,b"} {
		l, records, _ := opened(t, d, 5, 3, 4)
		if records != want || l.Segments() != i+1 {
			t.Error("opened again", records, l.Segments())
		}
		add(t, l, string("bc"[i]))
	}
	l, records, _ := opened(t, d, 5, 3, 4)
	if records != "a,b,c" || l.Segments() != 3 {
		t.Error("opened again", records, l.Segments())
	}
	if n, e := l.Append([]byte("d")); n != 0 || e != api.ErrFull {
		t.Error("Append to three segments that were there", n, e)
	}
}

// P4.3: Cut, at its edges.
func TestCut(t *testing.T) {
	for _, c := range []struct {
		n        int64
		segments int
		left     string
	}{
		{1, 1, ""}, {2, 1, "a"}, {3, 1, "a,b"}, {4, 1, "a,b,c"}, {5, 2, "a,b,c,d"}, {7, 2, "a,b,c,d,e,f"}, {8, 3, "a,b,c,d,e,f,g"},
	} {
		d := newDisk(t, 18)
		l, _, _ := opened(t, d, 0, 4, 4)
		add(t, l, "a,b,c,d,e,f,g,h")
		if e := l.Cut(c.n); e != api.OK || l.Next() != c.n || l.Segments() != c.segments || d.Pending() != 0 || l.Dead() {
			t.Errorf("Cut(%d): %v, next %d, segments %d", c.n, e, l.Next(), l.Segments())
		}
		add(t, l, "X")
		if l.Segments() != c.segments+1 {
			t.Errorf("Append behind Cut(%d) begins no segment", c.n)
		}
		add(t, l, "Y")
		ok(t, l.Flush())
		want := strings.TrimPrefix(c.left+",X,Y", ",")
		if c.n == 1 { // the new segment can begin the chain itself
			c.segments = 0
		}
		again, records, _ := opened(t, d, 0, 4, 4)
		if records != want || again.Segments() != c.segments+1 {
			t.Errorf("opened behind Cut(%d): %s, not %s, segments %d", c.n, records, want, again.Segments())
		}
	}
}

// P4.3: what Cut does not take; a cut of nothing does nothing.
func TestCutRefuses(t *testing.T) {
	d := newDisk(t, 18)
	l, _, _ := opened(t, d, 0, 4, 4)
	add(t, l, "a,b,c,d")
	ok(t, l.Drop(2))
	before := d.Now()
	for _, n := range []int64{2, 1, 0, -1, 6, math.MaxInt64, math.MinInt64} {
		if e := l.Cut(n); e != api.ErrArg {
			t.Errorf("Cut(%d): %v", n, e)
		}
	}
	if e := l.Cut(5); e != api.OK {
		t.Error("Cut of nothing", e)
	}
	if !bytes.Equal(d.Now(), before) || l.Next() != 5 || l.Segments() != 2 {
		t.Error("a cut of nothing has done something")
	}
	add(t, l, "e") // still in the same segment
	if l.Segments() != 2 {
		t.Error("a cut of nothing begins a segment", l.Segments())
	}
	if e := l.Cut(3); e != api.OK || l.Next() != 3 || l.Segments() != 1 {
		t.Error("Cut(3)", e, l.Next(), l.Segments())
	}
}

// P4.3: Drop, at its edges.
func TestDrop(t *testing.T) {
	for _, c := range []struct {
		n        int64
		segments int
		left     string
	}{
		{0, 3, "a,b,c,d,e,f,g,h"}, {1, 3, "b,c,d,e,f,g,h"}, {2, 3, "c,d,e,f,g,h"}, {3, 2, "d,e,f,g,h"}, {4, 2, "e,f,g,h"},
		{5, 2, "f,g,h"}, {6, 1, "g,h"}, {7, 1, "h"}, {8, 1, ""},
	} {
		d := newDisk(t, 18)
		l, _, _ := opened(t, d, 0, 4, 4)
		ok(t, l.Set(3, 2))
		add(t, l, "a,b,c,d,e,f,g,h")
		want := wal.Meta{Term: 3, Vote: 2, Base: c.n}
		if e := l.Drop(c.n); e != api.OK || l.Next() != 9 || l.Segments() != c.segments || l.Meta() != want || d.Pending() != 0 {
			t.Errorf("Drop(%d): %v, next %d, segments %d, %v", c.n, e, l.Next(), l.Segments(), l.Meta())
		}
		again, records, m := opened(t, d.Copy(), 0, 4, 4)
		if records != c.left || again.Next() != 9 || again.Segments() != c.segments || m != want {
			t.Errorf("opened behind Drop(%d): %s, segments %d, %v", c.n, records, again.Segments(), m)
		}
		add(t, l, "i") // there is room in the last segment still
		if l.Segments() != c.segments {
			t.Errorf("Append behind Drop(%d) begins a segment", c.n)
		}
	}
}

// P4.3: what Drop does not take.
func TestDropRefuses(t *testing.T) {
	d := newDisk(t, 18)
	l, _, _ := opened(t, d, 0, 4, 4)
	for _, n := range []int64{1, -1, math.MaxInt64, math.MinInt64} {
		if e := l.Drop(n); e != api.ErrArg {
			t.Errorf("Drop(%d) of no records: %v", n, e)
		}
	}
	add(t, l, "a,b,c,d")
	ok(t, l.Drop(2))
	before := d.Now()
	for _, n := range []int64{1, 0, -1, 5, 6, math.MaxInt64, math.MinInt64} {
		if e := l.Drop(n); e != api.ErrArg || l.Meta().Base != 2 {
			t.Errorf("Drop(%d): %v", n, e)
		}
	}
	if !bytes.Equal(d.Now(), before) {
		t.Error("a refused Drop has written")
	}
	if e := l.Drop(2); e != api.OK || bytes.Equal(d.Now(), before) {
		t.Error("Drop of the base does not write", e)
	}
}

// P4.3: segments that are empty behind a crash go, too, when a later one goes on from the same number.
func TestDropOfEmptySegments(t *testing.T) {
	d := newDisk(t, 18)
	l, _, _ := opened(t, d, 0, 4, 4)
	add(t, l, "a")
	ok(t, l.Flush())
	for range 2 {
		l, _, _ = opened(t, d, 0, 4, 4)
		add(t, l, "lost")
		d.Crash([]int{1, 0}) // the head, and not the record
	}
	l, records, _ := opened(t, d, 0, 4, 4)
	if records != "a" || l.Segments() != 3 {
		t.Fatal("opened with empty segments", records, l.Segments())
	}
	add(t, l, "b")
	if l.Segments() != 4 || l.Drop(0) != api.OK || l.Segments() != 4 {
		t.Error("Drop(0)", l.Segments())
	}
	if e := l.Drop(1); e != api.OK || l.Segments() != 1 {
		t.Error("Drop(1)", e, l.Segments())
	}
}

// P4.3: Cut takes the empty segments of the same number away as well.
func TestCutOfEmptySegments(t *testing.T) {
	d := newDisk(t, 18)
	l, _, _ := opened(t, d, 0, 4, 4)
	add(t, l, "a")
	ok(t, l.Flush())
	for range 2 {
		l, _, _ = opened(t, d, 0, 4, 4)
		add(t, l, "lost")
		d.Crash([]int{1, 0})
	}
	l, _, _ = opened(t, d, 0, 4, 4)
	add(t, l, "b")
	if l.Segments() != 4 {
		t.Fatal("segments", l.Segments())
	}
	if e := l.Cut(2); e != api.OK || l.Segments() != 1 || l.Next() != 2 {
		t.Error("Cut(2)", e, l.Segments())
	}
	add(t, l, "B")
	ok(t, l.Flush())
	if _, records, _ := opened(t, d, 0, 4, 4); records != "a,B" {
		t.Error("opened behind Cut(2)", records)
	}
}

// P4.3, P4.4: Set, at its edges and beyond them.
func TestSet(t *testing.T) {
	d := newDisk(t, 10)
	l, _, _ := opened(t, d, 0, 2, 4)
	add(t, l, "a,b")
	ok(t, l.Drop(1))
	for _, c := range []struct {
		term int64
		vote int
	}{{0, -1}, {1, 0}, {7, 4}, {greatest, 3}, {5, -1}, {0, 0}} {
		want := wal.Meta{Term: c.term, Vote: c.vote, Base: 1}
		if e := l.Set(c.term, c.vote); e != api.OK || l.Meta() != want || d.Pending() != 0 {
			t.Errorf("Set(%d, %d): %v, %v", c.term, c.vote, e, l.Meta())
		}
		if _, records, m := opened(t, d.Copy(), 0, 2, 4); m != want || records != "b" {
			t.Errorf("opened behind Set(%d, %d): %v", c.term, c.vote, m)
		}
	}
	before, was := d.Now(), l.Meta()
	for _, c := range []struct {
		term int64
		vote int
	}{{-1, 0}, {greatest + 1, 0}, {math.MaxInt64, 0}, {math.MinInt64, 0}, {1, -2}, {1, api.MaxNodes}, {1, math.MaxInt}, {1, math.MinInt}, {-1, 9}} {
		if e := l.Set(c.term, c.vote); e != api.ErrArg || l.Meta() != was {
			t.Errorf("Set(%d, %d): %v", c.term, c.vote, e)
		}
	}
	if !bytes.Equal(d.Now(), before) {
		t.Error("a refused Set has written")
	}
}

// P4.2 to P4.4: a log whose disk fails is dead, whatever it was doing, and says so first.
func TestDead(t *testing.T) {
	calls := map[string]func(l *wal.Log) api.Errno{
		"Append": func(l *wal.Log) api.Errno {
			n, e := l.Append([]byte("x"))
			if n != 0 {
				t.Error("a number beside an error", n, e)
			}
			return e
		},
		"Flush": (*wal.Log).Flush,
		"Cut":   func(l *wal.Log) api.Errno { return l.Cut(2) },
		"Drop":  func(l *wal.Log) api.Errno { return l.Drop(1) },
		"Set":   func(l *wal.Log) api.Errno { return l.Set(9, 1) },
	}
	for name, call := range calls {
		for _, per := range []int{4, 5} { // without room, Append has to begin a segment; and with it
			d := newDisk(t, 2+2*per)
			l, _, _ := opened(t, d, 0, 2, per)
			add(t, l, "a,b,c")
			d.Fail()
			want := api.ErrFlush
			if per == 5 || name == "Append" {
				d.Flush()
				want = api.ErrDead
			}
			if e := call(l); e != want || !l.Dead() {
				t.Errorf("%s on a failing disk: %v, dead %v", name, e, l.Dead())
			}
			if appends := name == "Append" || name == "Flush"; appends && stateOf(l) != (state{4, 1, wal.Meta{Vote: -1}}) {
				t.Errorf("%s on a failing disk changed the log: %v", name, stateOf(l))
			}
			d.Crash(nil) // the disk lives again, the log does not
			for other, call := range calls {
				if e := call(l); e != api.ErrDead || !l.Dead() {
					t.Errorf("%s of a dead log: %v", other, e)
				}
			}
			if n, e := l.Append(make([]byte, 5000)); n != 0 || e != api.ErrDead {
				t.Error("Append of a dead log", n, e)
			}
			if l.Cut(-1) != api.ErrDead || l.Drop(-1) != api.ErrDead || l.Set(-1, -9) != api.ErrDead {
				t.Error("a dead log names another error")
			}
		}
	}
}

// state is what a log tells of itself.
type state struct {
	next     int64
	segments int
	meta     wal.Meta
}

func stateOf(l *wal.Log) state { return state{l.Next(), l.Segments(), l.Meta()} }

// eight is a log of eight records in three segments, of the term 3, the vote 2 and the base 1.
func eight(t *testing.T) (*disk.Disk, *wal.Log) {
	t.Helper()
	d := newDisk(t, 18)
	l, _, _ := opened(t, d, 0, 4, 4)
	add(t, l, "a,b,c,d,e,f,g,h")
	ok(t, l.Drop(1))
	ok(t, l.Set(3, 2))
	return d, l
}

// P4.3: what Cut, Drop and Set have changed ahead of the meta record's writing stands, though that goes wrong: by a flush that fails, or as the disk was dead. What is behind it, the segments that Drop frees, is not done.
func TestChangesStandOnAFailingDisk(t *testing.T) {
	set := func(term int64, vote int) func(*wal.Log) api.Errno {
		return func(l *wal.Log) api.Errno { return l.Set(term, vote) }
	}
	drop := func(n int64) func(*wal.Log) api.Errno { return func(l *wal.Log) api.Errno { return l.Drop(n) } }
	cut := func(n int64) func(*wal.Log) api.Errno { return func(l *wal.Log) api.Errno { return l.Cut(n) } }
	meta := wal.Meta{Term: 3, Vote: 2, Base: 1}
	for name, c := range map[string]struct {
		call func(*wal.Log) api.Errno
		want state
	}{
		"Set(9, 1)":        {set(9, 1), state{9, 3, wal.Meta{Term: 9, Vote: 1, Base: 1}}},
		"Set(0, -1)":       {set(0, -1), state{9, 3, wal.Meta{Term: 0, Vote: -1, Base: 1}}},
		"Set(greatest, 4)": {set(greatest, 4), state{9, 3, wal.Meta{Term: greatest, Vote: 4, Base: 1}}},
		"Drop(1)":          {drop(1), state{9, 3, meta}},
		"Drop(2)":          {drop(2), state{9, 3, wal.Meta{Term: 3, Vote: 2, Base: 2}}},
		"Drop(3)":          {drop(3), state{9, 3, wal.Meta{Term: 3, Vote: 2, Base: 3}}},
		"Drop(8)":          {drop(8), state{9, 3, wal.Meta{Term: 3, Vote: 2, Base: 8}}},
		"Cut(2)":           {cut(2), state{2, 1, meta}},
		"Cut(4)":           {cut(4), state{4, 1, meta}},
		"Cut(5)":           {cut(5), state{5, 2, meta}},
		"Cut(7)":           {cut(7), state{7, 2, meta}},
		"Cut(8)":           {cut(8), state{8, 3, meta}},
	} {
		d, l := eight(t)
		d.Fail()
		if e := c.call(l); e != api.ErrFlush || !l.Dead() || stateOf(l) != c.want {
			t.Errorf("%s, with a flush that fails: %v, dead %v, %v", name, e, l.Dead(), stateOf(l))
		}
		d.Crash([]int{-1}) // the slot was written, so that it may be kept
		if _, _, m := opened(t, d, 0, 4, 4); m != c.want.meta {
			t.Errorf("%s, with a flush that fails, is not on the disk: %v", name, m)
		}
		d, l = eight(t)
		d.Fail()
		d.Flush()
		if e := c.call(l); e != api.ErrDead || !l.Dead() || stateOf(l) != c.want {
			t.Errorf("%s, with a dead disk: %v, dead %v, %v", name, e, l.Dead(), stateOf(l))
		}
	}
}

// P4.3: what is refused for its arguments, and a cut of nothing, changes nothing and asks the disk for nothing, though that is about to fail.
func TestRefusedOnAFailingDisk(t *testing.T) {
	d, l := eight(t)
	d.Fail()
	was := stateOf(l)
	for name, e := range map[string]api.Errno{
		"Set(-1, 0)": l.Set(-1, 0), "Set(1, 5)": l.Set(1, api.MaxNodes), "Set(1, -2)": l.Set(1, -2),
		"Drop(0)": l.Drop(0), "Drop(9)": l.Drop(9), "Cut(1)": l.Cut(1), "Cut(10)": l.Cut(10),
	} {
		if e != api.ErrArg {
			t.Error(name, e)
		}
	}
	if e := l.Cut(9); e != api.OK {
		t.Error("a cut of nothing", e)
	}
	if stateOf(l) != was || l.Dead() || d.Dead() {
		t.Error("what was refused has changed the log", stateOf(l), l.Dead(), d.Dead())
	}
}

// P4.3: the base is n, too, where Drop flushes ahead of the meta record, as a crash has left a segment behind lost records.
func TestDropPastAStrayOnAFailingDisk(t *testing.T) {
	d := newDisk(t, 18)
	l, _, _ := opened(t, d, 0, 4, 4)
	add(t, l, "a")
	ok(t, l.Flush())
	add(t, l, "b,c,d,e,f,g")
	d.Crash([]int{0, 0, 0, 0, 0, 0, -1, -1}) // the head of the third segment, and g
	l, records, _ := opened(t, d, 0, 4, 4)
	if records != "a" {
		t.Fatal("opened", records)
	}
	add(t, l, "B,C,D,E,F,G")
	d.Fail()
	if e := l.Drop(6); e != api.ErrFlush || !l.Dead() || stateOf(l) != (state{8, 3, wal.Meta{Vote: -1, Base: 6}}) {
		t.Error("Drop(6)", e, l.Dead(), stateOf(l))
	}
}

// Two logs on one disk do not meet, and leave the other sectors alone.
func TestAreasBesideEachOther(t *testing.T) {
	d := newDisk(t, 30)
	ok(t, d.Write(0, bytes.Repeat([]byte{1}, 30*api.Sector)))
	l, _, _ := opened(t, d, 3, 2, 4)
	other, _, _ := opened(t, d, 14, 3, 4)
	add(t, l, "a,b,c,d,e,f")
	add(t, other, "p,q,r,s,t,u,v,w,x")
	ok(t, l.Set(1, 1))
	ok(t, other.Set(2, 2))
	now := d.Now()
	for _, at := range []int{0, 1, 2, 13, 28, 29} {
		if !bytes.Equal(now[at*256:(at+1)*256], bytes.Repeat([]byte{1}, 256)) {
			t.Error("the sector", at, "is not as it was")
		}
	}
	if _, records, m := opened(t, d, 3, 2, 4); records != "a,b,c,d,e,f" || m.Term != 1 {
		t.Error("the first log", records, m)
	}
	if _, records, m := opened(t, d, 14, 3, 4); records != "p,q,r,s,t,u,v,w,x" || m.Term != 2 {
		t.Error("the second log", records, m)
	}
}

// What is handed in is neither changed nor kept, and the records that are answered share nothing.
func TestAnswersAreNewMemory(t *testing.T) {
	d := newDisk(t, 10)
	l, _, _ := opened(t, d, 0, 2, 4)
	for _, w := range []string{"abc", "def", "ghi"} {
		b := append(make([]byte, 0, 300), w...)
		if _, e := l.Append(b); e != api.OK || string(b) != w || !bytes.Equal(b[3:300], make([]byte, 297)) {
			t.Error("Append changed its record", e)
		}
		b[0] = 'X'
	}
	_, records, _, _ := wal.Open(d, 0, 2, 4)
	for i := range records {
		rest := slices.Concat(records[:i], records[i+1:])
		before := text(rest)
		_ = append(records[i], make([]byte, 400)...)
		whole := records[i][:cap(records[i])]
		for j := range whole {
			whole[j] = 0xee
		}
		if text(rest) != before {
			t.Error("a record shares memory")
		}
	}
	if _, records, _ := opened(t, d, 0, 2, 4); records != "abc,def,ghi" {
		t.Error("a record shares memory with the disk", records)
	}
}
