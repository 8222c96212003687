package wal_test

import (
	"math/rand"
	"slices"
	"strconv"
	"strings"
	"testing"

	"caisson/api"
	"caisson/disk"
	"caisson/wal"
)

// bench is a log that is asked at random, and what P4.5 and P4.6 say of it.
type bench struct {
	t              *testing.T
	r              *rand.Rand
	d              *disk.Disk
	l              *wal.Log
	from, segs     int
	per            int
	meta           wal.Meta   // that was written last
	trying         []wal.Meta // that may be there instead
	safe, loose    []string   // flushed, and not, from the base on
	ghost          []string   // behind a cut, till something behind it is flushed: what a crash may bring back
	isCut          bool
	written, comes int
}

func newBench(t *testing.T, seed int64) *bench {
	r := rand.New(rand.NewSource(seed))
	b := &bench{t: t, r: r, from: r.Intn(3), segs: 2 + r.Intn(5), per: 2 + r.Intn(6), meta: wal.Meta{Vote: -1}}
	b.d = newDisk(t, b.from+2+b.segs*b.per)
	b.l, _, _ = opened(t, b.d, b.from, b.segs, b.per)
	return b
}

func (b *bench) all() []string { return slices.Concat(b.safe, b.loose) }

// flushed is said behind all that flushes the disk.
func (b *bench) flushed() {
	if len(b.loose) > 0 {
		b.isCut, b.ghost = false, nil
	}
	b.safe, b.loose = b.all(), nil
}

// put is a call that writes the meta record m.
func (b *bench) put(e api.Errno, m wal.Meta) bool {
	b.t.Helper()
	if b.l.Meta() != m { // whether or not the disk has failed
		b.t.Fatalf("the meta record is %v, not %v: %v", b.l.Meta(), m, e)
	}
	if e == api.OK {
		b.flushed()
		b.meta = m
		return true
	}
	if e != api.ErrFlush {
		b.t.Fatal("the meta record is not written", e)
	}
	b.trying = append(b.trying, m)
	return false
}

func (b *bench) append() {
	b.written++
	w := strings.Repeat(strconv.Itoa(b.written)+".", 1+b.r.Intn(2)*b.r.Intn(20*b.per))
	want := b.meta.Base + int64(len(b.all())) + 1
	n, e := b.l.Append([]byte(w))
	if e == api.OK {
		b.loose = append(b.loose, w)
		if n != want {
			b.t.Fatalf("Append = %d, not %d", n, want)
		}
	} else if e != api.ErrFull && e != api.ErrSize && e != api.ErrFlush {
		b.t.Fatal("Append", e)
	}
}

func (b *bench) cut() {
	n := b.meta.Base + 1 + int64(b.r.Intn(len(b.all())+1))
	if n == b.l.Next() {
		ok(b.t, b.l.Cut(n))
		return
	}
	e := b.l.Cut(n)
	if b.l.Next() != n {
		b.t.Fatalf("behind Cut(%d): next %d, %v", n, b.l.Next(), e)
	}
	if b.put(e, b.meta) {
		if !b.isCut {
			b.isCut, b.ghost = true, b.safe
		}
		b.safe = slices.Clone(b.safe[:n-b.meta.Base-1])
	}
}

func (b *bench) drop() {
	by := b.r.Intn(len(b.all()) + 1)
	m := b.meta
	m.Base += int64(by)
	if b.put(b.l.Drop(m.Base), m) {
		b.safe = b.safe[by:]
		if b.isCut {
			b.ghost = b.ghost[by:]
		}
	}
}

func (b *bench) step() {
	switch b.r.Intn(12) {
	default:
		b.append()
	case 0, 1:
		e := b.l.Flush()
		if e == api.OK {
			b.flushed()
		} else if e != api.ErrFlush {
			b.t.Fatal("Flush", e)
		}
	case 2:
		b.cut()
	case 3, 4:
		b.drop()
	case 5:
		m := wal.Meta{Term: b.r.Int63n(100), Vote: b.r.Intn(6) - 1, Base: b.meta.Base}
		b.put(b.l.Set(m.Term, m.Vote), m)
	case 6:
		if b.r.Intn(3) == 0 {
			b.d.Fail()
		}
	}
}

// fits tells whether the records are first ones of may, and at least as many as must; both stand from the old base on, by so many ahead of the new one.
func fits(records, may []string, must int, by int) bool {
	may = may[min(by, len(may)):]
	return len(records) <= len(may) && slices.Equal(records, may[:len(records)]) && len(records) >= must-by
}

// check is P4.5: what a log has behind a crash.
func (b *bench) check(records []string, m wal.Meta) {
	b.t.Helper()
	if m != b.meta && !slices.Contains(b.trying, m) {
		b.t.Fatalf("the meta record is %v, not %v or %v", m, b.meta, b.trying)
	}
	by := int(m.Base - b.meta.Base)
	if fits(records, b.all(), len(b.safe), by) {
		return
	}
	if !b.isCut || !fits(records, b.ghost, len(b.safe), by) {
		b.t.Fatalf("there is %q above %d; flushed: %q, and not: %q; cut: %v %q", records, m.Base, b.safe, b.loose, b.isCut, b.ghost)
	}
	b.comes++
}

// crash lets the disk crash, some ways, opens the log, and goes on with one of them.
func (b *bench) crash() {
	b.t.Helper()
	for i := range 4 {
		d := b.d.Copy()
		d.Crash(b.kept(d.Pending(), i))
		if b.r.Intn(3) == 0 { // and again, while it is opened
			d.Fail()
			if _, _, _, e := wal.Open(d, b.from, b.segs, b.per); e != api.ErrFlush {
				b.t.Fatal("Open with a flush that fails", e)
			}
			d.Crash([]int{b.r.Intn(2)})
		}
		l, raw, m, e := wal.Open(d, b.from, b.segs, b.per)
		if e != api.OK {
			b.t.Fatal("Open", e)
		}
		var records []string
		for _, w := range raw {
			records = append(records, string(w))
		}
		b.check(records, m)
		if i == 3 { // P4.6: from now on this is what was flushed, and nothing else is
			b.d, b.l, b.meta, b.trying = d, l, m, nil
			b.safe, b.loose, b.isCut, b.ghost = records, nil, false, nil
		}
	}
}

func (b *bench) kept(groups, way int) []int {
	l := make([]int, groups)
	for i := range l {
		switch way {
		case 1:
			l[i] = -1
		case 2, 3:
			l[i] = b.r.Intn(1<<16) * b.r.Intn(2) // some of it, or nothing
			if b.r.Intn(3) == 0 {
				l[i] = -1
			}
		}
	}
	return l
}

// P4.5, P4.6: whatever is asked, and whenever the disk crashes.
func TestCrashes(t *testing.T) {
	comes := 0
	for seed := range int64(400) {
		b := newBench(t, seed)
		for range 60 {
			if b.l.Dead() || b.d.Dead() || b.r.Intn(10) == 0 {
				b.crash()
			} else {
				b.step()
			}
		}
		comes += b.comes
	}
	if comes == 0 {
		t.Error("no crash brought back what was cut: this is not tried")
	}
}

// each goes through all lists of n numbers from 0 to below - 1.
func each(n, below int, do func([]int)) {
	l := make([]int, n)
	for {
		do(l)
		i := 0
		for ; i < n; i++ {
			l[i]++
			if l[i] < below {
				break
			}
			l[i] = 0
		}
		if i == n {
			return
		}
	}
}

// P4.5: all ways to keep a part of three records of two sectors each, in two segments, behind one that is safe.
func TestAllCrashesOfAFew(t *testing.T) {
	long := []string{strings.Repeat("b", 300), strings.Repeat("c", 300), strings.Repeat("d", 300)}
	d := newDisk(t, 20)
	l, _, _ := opened(t, d, 0, 3, 6)
	add(t, l, "a")
	ok(t, l.Flush())
	add(t, l, strings.Join(long, ","))
	if d.Pending() != 4 {
		t.Fatal("groups", d.Pending())
	}
	each(4, 4, func(kept []int) {
		c := d.Copy()
		c.Crash(kept)
		want := "a"
		for i, need := range [][]int{{3, 0, 0, 0}, {3, 3, 0, 0}, {3, 3, 1, 3}} {
			all := true
			for j, bits := range need {
				all = all && kept[j]&bits == bits
			}
			if !all {
				break
			}
			want += "," + long[i]
		}
		if _, records, _ := opened(t, c, 0, 3, 6); records != want {
			t.Errorf("kept %v: %.20q, not %.20q", kept, records, want)
		}
	})
}

// P4.6: a record that a crash left behind a lost one is never read as one that comes later.
func TestWhatIsLostStaysLost(t *testing.T) {
	d := newDisk(t, 18)
	l, _, _ := opened(t, d, 0, 4, 4)
	add(t, l, "a,b,c")
	d.Crash([]int{1, 1, 0, 1}) // the head, a and c
	for i, want := range []string{"a", "a,B", "a,B", "a,B,C"} {
		l, records, _ := opened(t, d, 0, 4, 4)
		if records != want {
			t.Fatalf("opened for the time %d: %q, not %q", i, records, want)
		}
		if i%2 == 0 {
			add(t, l, string("B C"[i]))
			ok(t, l.Flush())
		}
		d.Crash(nil)
	}
}

// P4.6: a segment that a crash has lost but for its records does not begin again by the same life.
func TestLostHeadStaysLost(t *testing.T) {
	d := newDisk(t, 10)
	l, _, _ := opened(t, d, 0, 2, 4)
	add(t, l, "old")
	d.Crash([]int{0, 1}) // the record without its head
	l, records, _ := opened(t, d, 0, 2, 4)
	if records != "" {
		t.Fatal("a record without a head", records)
	}
	ok(t, l.Set(1, 1))
	add(t, l, "new")
	d.Crash([]int{1, 0}) // the same head's place, without its record
	if _, records, _ := opened(t, d, 0, 2, 4); records != "" {
		t.Error("what was lost came back", records)
	}
}

// P4.5: a term and a vote, while they are written.
func TestCrashWhileSetting(t *testing.T) {
	for _, kept := range []int{0, 1} {
		d := newDisk(t, 10)
		l, _, _ := opened(t, d, 0, 2, 4)
		ok(t, l.Set(4, 2))
		d.Fail()
		if e := l.Set(5, 3); e != api.ErrFlush {
			t.Fatal("Set", e)
		}
		d.Crash([]int{kept})
		want := wal.Meta{Term: 4 + int64(kept), Vote: 2 + kept}
		if _, _, m := opened(t, d, 0, 2, 4); m != want {
			t.Error("Set, kept", kept, m)
		}
	}
}

// P4.3: till a segment behind a cut is flushed a crash may bring back what was cut; behind it nothing does.
func TestCutComesBackOrNot(t *testing.T) {
	for _, c := range []struct {
		flush bool
		kept  []int
		want  string
	}{
		{false, nil, "a,b,c,d"}, {false, []int{1, 1}, "a,X"}, {false, []int{1, 0}, "a"}, {false, []int{0, 1}, "a,b,c"}, {true, nil, "a,X"},
	} {
		d := newDisk(t, 18)
		l, _, _ := opened(t, d, 0, 4, 4)
		add(t, l, "a,b,c,d")
		ok(t, l.Cut(2))
		add(t, l, "X")
		if c.flush {
			ok(t, l.Flush())
		}
		d.Crash(c.kept)
		if _, records, _ := opened(t, d, 0, 4, 4); records != c.want {
			t.Errorf("flushed %v, kept %v: %q, not %q", c.flush, c.kept, records, c.want)
		}
	}
}

// P4.1: the base is safe, and the records below it are not: the log goes on behind the base, without a chain.
func TestBaseAheadOfTheRecords(t *testing.T) {
	d := newDisk(t, 18)
	l, _, _ := opened(t, d, 0, 4, 4)
	add(t, l, "a,b,c")
	d.Fail()
	if e := l.Drop(2); e != api.ErrFlush {
		t.Fatal("Drop", e)
	}
	d.Crash([]int{1, 1, 0, 1, 1}) // all but b
	l, records, m := opened(t, d, 0, 4, 4)
	if records != "" || m.Base != 2 || l.Next() != 3 || l.Segments() != 0 {
		t.Fatal("opened", records, m, l.Next(), l.Segments())
	}
	add(t, l, "C")
	sectorIs(t, d, 2, head(1, 3, 3))
	if l.Segments() != 1 {
		t.Error("segments", l.Segments())
	}
	ok(t, l.Flush())
	d.Crash(nil)
	if l, records, _ := opened(t, d, 0, 4, 4); records != "C" || l.Segments() != 1 {
		t.Error("opened again", records, l.Segments())
	}
}

// P4.5: segments that begin behind a cut never stand behind what was cut, whichever of them a crash keeps.
func TestSegmentsBehindACut(t *testing.T) {
	d := newDisk(t, 14)
	l, _, _ := opened(t, d, 0, 6, 2)
	add(t, l, "a,b,c,d")
	ok(t, l.Cut(2))
	add(t, l, "X,Y,Z") // each in a segment of its own, in the place of what was cut
	each(d.Pending(), 2, func(kept []int) {
		c := d.Copy()
		c.Crash(kept)
		_, records, _ := opened(t, c, 0, 6, 2)
		if !strings.HasPrefix("a,X,Y,Z", records) && !strings.HasPrefix("a,b,c,d", records) {
			t.Errorf("kept %v: %q", kept, records)
		}
	})
}

// P4.2: an error of the disk, while segments begin behind a cut, is Append's.
func TestSegmentsBehindACutOnAFailingDisk(t *testing.T) {
	d := newDisk(t, 14)
	l, _, _ := opened(t, d, 0, 6, 2)
	add(t, l, "a,b")
	ok(t, l.Cut(1))
	add(t, l, "X")
	d.Fail()
	if n, e := l.Append([]byte("Y")); n != 0 || e != api.ErrFlush || !l.Dead() || l.Next() != 2 || l.Segments() != 2 {
		t.Error("Append", n, e, l.Next(), l.Segments())
	}
}

// P4.6: a base above what was flushed does not bring back a record that an earlier crash had cut off, whatever the next one keeps.
func TestBaseBringsNothingBack(t *testing.T) {
	d := newDisk(t, 14)
	l, _, _ := opened(t, d, 0, 4, 3)
	add(t, l, "a,b,lost,LOST") // the last two in the second segment
	d.Crash([]int{1, 1, 0, 1, 1, 1})
	l, records, _ := opened(t, d, 0, 4, 3)
	if records != "a" {
		t.Fatal("opened", records)
	}
	add(t, l, "B,C,D")
	d.Fail()
	if e := l.Drop(2); e != api.ErrFlush || !l.Dead() {
		t.Fatal("Drop", e)
	}
	each(d.Pending(), 2, func(kept []int) {
		c := d.Copy()
		c.Crash(kept)
		_, records, m := opened(t, c, 0, 4, 3)
		want := "a,B,C,D"[m.Base*2:]
		if !strings.HasPrefix(want, records) {
			t.Errorf("kept %v: %q above %d", kept, records, m.Base)
		}
	})
}

// P4.6: where a log goes on without a chain, its segments take the place of those that kept older ones away: none of these comes back.
func TestSegmentsWithoutAChain(t *testing.T) {
	d := newDisk(t, 10)
	l, _, _ := opened(t, d, 0, 4, 2)
	add(t, l, "a,b,c")
	ok(t, l.Cut(1))
	add(t, l, "X")
	ok(t, l.Flush())
	add(t, l, "Y")
	d.Fail()
	if e := l.Drop(2); e != api.ErrFlush {
		t.Fatal("Drop", e)
	}
	d.Crash([]int{0, 0, 1}) // the base alone
	l, records, m := opened(t, d, 0, 4, 2)
	if records != "" || m.Base != 2 || l.Segments() != 0 {
		t.Fatal("opened", records, m, l.Segments())
	}
	add(t, l, "P,Q")
	each(d.Pending(), 2, func(kept []int) {
		c := d.Copy()
		c.Crash(kept)
		if _, records, _ := opened(t, c, 0, 4, 2); !strings.HasPrefix("P,Q", records) {
			t.Errorf("kept %v: %q", kept, records)
		}
	})
}

// P4.2, P4.3: otherwise neither Append nor Drop makes anything safe ahead of its time.
func TestNothingIsSafeAheadOfAFlush(t *testing.T) {
	d := newDisk(t, 14)
	l, _, _ := opened(t, d, 0, 6, 2)
	add(t, l, "a,b,c")
	if d.Pending() != 6 {
		t.Error("groups of three segments:", d.Pending())
	}
	d.Fail()
	if e := l.Drop(3); e != api.ErrFlush || d.Pending() != 7 {
		t.Error("Drop", e, d.Pending())
	}
	d.Crash([]int{1, 1, 0, 0, 1, 1}) // b is lost, and c stays behind it
	l, records, _ := opened(t, d, 0, 6, 2)
	if records != "a" {
		t.Fatal("opened", records)
	}
	add(t, l, "B,C,D")
	if d.Pending() != 6 {
		t.Error("groups of three segments behind a crash:", d.Pending())
	}
	d.Crash(nil)
	if _, records, _ := opened(t, d, 0, 6, 2); records != "a" {
		t.Error("opened again", records)
	}
}

// P4.2, P4.3: behind a flush of what was appended there is no danger any more, and none where a segment was dropped.
func TestNothingIsSafeAheadOfAFlushBehindACut(t *testing.T) {
	d := newDisk(t, 22)
	l, _, _ := opened(t, d, 0, 10, 2)
	add(t, l, "a,b,c")
	ok(t, l.Cut(1))
	add(t, l, "X")
	ok(t, l.Flush())
	add(t, l, "Y,Z")
	if d.Pending() != 4 {
		t.Error("groups of two segments behind a cut:", d.Pending())
	}
	ok(t, l.Drop(2))
	l, _, _ = opened(t, d, 0, 10, 2)
	add(t, l, "p,q")
	d.Fail()
	if e := l.Drop(4); e != api.ErrFlush || d.Pending() != 5 {
		t.Error("Drop", e, d.Pending())
	}
}
