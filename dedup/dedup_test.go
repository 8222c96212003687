package dedup_test

import (
	"bytes"
	"math"
	"math/rand"
	"testing"

	"caisson/api"
	"caisson/dedup"
)

// P12.2: the document's example.
func TestExample(t *testing.T) {
	d := dedup.New()
	put(t, d, 3, 7, api.Reply{Status: api.Good})
	is(t, d, 3, 7, dedup.Done)
	is(t, d, 3, 6, dedup.Fresh)
	is(t, d, 16, 1, dedup.Wrong)
}

// P12.2: nothing is kept of which nothing was put; each nexus stands for itself.
func TestEachNexusForItself(t *testing.T) {
	d := dedup.New()
	for nexus := range 16 {
		if d.Len(nexus) != 0 || d.Last(nexus) != 0 {
			t.Error("New", nexus)
		}
		is(t, d, nexus, 5, dedup.Fresh)
	}
	for nexus := range 16 {
		put(t, d, nexus, int64(100+nexus), api.Reply{Key: nexus})
	}
	for nexus := range 16 {
		for other := range 16 {
			want := dedup.Fresh
			if other == nexus {
				want = dedup.Done
			}
			is(t, d, nexus, int64(100+other), want)
		}
		if _, r := d.Check(nexus, int64(100+nexus)); r.Key != nexus {
			t.Error("Check", nexus, r)
		}
		if d.Len(nexus) != 1 || d.Last(nexus) != int64(100+nexus) {
			t.Error("Len, Last", nexus, d.Len(nexus), d.Last(nexus))
		}
	}
}

// P12.2: a nexus or a number that can not be.
func TestWrong(t *testing.T) {
	long := api.Reply{Data: make([]byte, 4097)}
	d := dedup.New()
	put(t, d, 0, 1, api.Reply{})
	put(t, d, 15, highest, api.Reply{})
	for _, c := range []struct {
		nexus int
		seq   int64
	}{
		{math.MinInt, 1}, {-1, 1}, {16, 1}, {17, 1}, {math.MaxInt, 1},
		{0, math.MinInt64}, {0, -1}, {0, 0}, {0, highest + 1}, {15, highest + 1}, {0, math.MaxInt64}, {-1, 0}, {16, highest + 1},
	} {
		is(t, d, c.nexus, c.seq, dedup.Wrong)
		for _, r := range []api.Reply{{}, {Status: 256}, long} {
			if e := d.Put(c.nexus, c.seq, r); e != api.ErrArg {
				t.Error("Put", c, e)
			}
		}
	}
	for _, nexus := range []int{math.MinInt, -1, 16, math.MaxInt} {
		if d.Forget(nexus) != 0 || d.Last(nexus) != 0 || d.Len(nexus) != 0 {
			t.Error("of", nexus)
		}
	}
	if !bytes.Equal(d.Bytes(), tableBytes(map[int]part{0: partOf(0, 1), 15: partOf(0, highest)})) {
		t.Error("something has changed")
	}
}

// P12.2: the first error that is so, and that nothing changes with it.
func TestPutErrors(t *testing.T) {
	d := load(t, tableBytes(map[int]part{2: partOf(4, 7, 9)}))
	long := make([]byte, 4097)
	for _, c := range []struct {
		seq  int64
		r    api.Reply
		want api.Errno
	}{
		{7, api.Reply{Status: -1, Data: long}, api.ErrArg}, {7, api.Reply{Data: long}, api.ErrSize}, {7, api.Reply{}, api.ErrState},
		{4, api.Reply{Ascq: 256}, api.ErrArg}, {4, api.Reply{Data: long}, api.ErrSize}, {4, api.Reply{}, api.ErrState}, {1, api.Reply{}, api.ErrState},
		{8, api.Reply{Key: 256, Data: long}, api.ErrArg}, {8, api.Reply{Data: long}, api.ErrSize}, {9, api.Reply{Status: 2}, api.ErrState},
	} {
		if e := d.Put(2, c.seq, c.r); e != c.want {
			t.Error("Put", c.seq, e, "not", c.want)
		}
		if !bytes.Equal(d.Bytes(), tableBytes(map[int]part{2: partOf(4, 7, 9)})) {
			t.Fatal("something has changed", c.seq)
		}
	}
	put(t, d, 2, 8, api.Reply{Data: long[:4096]})
	put(t, d, 2, 5, api.Reply{})
	put(t, d, 3, 4, api.Reply{}) // of another nexus there is no floor
	if d.Len(2) != 4 || d.Len(3) != 1 {
		t.Error("Len", d.Len(2), d.Len(3))
	}
}

// P12.2: of one more than 64 the one with the least number goes, and is the floor; whatever is not kept below it is gone.
func TestFloor(t *testing.T) {
	d := dedup.New()
	for n := int64(64); n >= 1; n-- { // falling: 10, 20, .. 640
		put(t, d, 5, 10*n, api.Reply{Key: int(n)})
	}
	if d.Len(5) != 64 || d.Last(5) != 640 {
		t.Error("Len, Last", d.Len(5), d.Last(5))
	}
	is(t, d, 5, 1, dedup.Fresh)
	is(t, d, 5, 10, dedup.Done)
	put(t, d, 5, 35, api.Reply{}) // 10 goes
	is(t, d, 5, 10, dedup.Gone)
	is(t, d, 5, 9, dedup.Gone)
	is(t, d, 5, 1, dedup.Gone)
	is(t, d, 5, 11, dedup.Fresh)
	is(t, d, 5, 20, dedup.Done)
	is(t, d, 5, 35, dedup.Done)
	if e := d.Put(5, 10, api.Reply{}); e != api.ErrState {
		t.Error("Put", e)
	}
	put(t, d, 5, 15, api.Reply{}) // the least itself, so that it goes at once
	is(t, d, 5, 15, dedup.Gone)
	is(t, d, 5, 14, dedup.Gone)
	is(t, d, 5, 16, dedup.Fresh)
	is(t, d, 5, 20, dedup.Done)
	put(t, d, 5, highest, api.Reply{}) // 20 goes
	is(t, d, 5, 20, dedup.Gone)
	is(t, d, 5, 16, dedup.Gone)
	is(t, d, 5, 30, dedup.Done)
	is(t, d, 5, highest, dedup.Done)
	is(t, d, 4, 1, dedup.Fresh)
	if d.Len(5) != 64 || d.Last(5) != highest {
		t.Error("Len, Last", d.Len(5), d.Last(5))
	}
}

// P12.2: behind Forget the floor is 0, and numbers are fresh that were done or gone.
func TestForget(t *testing.T) {
	d := dedup.New()
	for n := int64(1); n <= 70; n++ {
		put(t, d, 5, n, api.Reply{})
		put(t, d, 6, n, api.Reply{})
	}
	if n := d.Forget(5); n != 64 {
		t.Error("Forget", n)
	}
	if d.Len(5) != 0 || d.Last(5) != 0 || d.Forget(5) != 0 {
		t.Error("Forget", d.Len(5), d.Last(5))
	}
	for _, n := range []int64{1, 6, 7, 70} {
		is(t, d, 5, n, dedup.Fresh)
	}
	is(t, d, 6, 6, dedup.Gone)
	is(t, d, 6, 7, dedup.Done)
	put(t, d, 5, 3, api.Reply{Key: 9})
	if what, r := d.Check(5, 3); what != dedup.Done || r.Key != 9 || d.Len(5) != 1 || d.Last(5) != 3 {
		t.Error("behind Forget", what, r)
	}
}

// P12.2: the floor is what Last tells, if nothing is kept; Forget takes it away too.
func TestLastIsTheFloor(t *testing.T) {
	d := load(t, tableBytes(map[int]part{0: partOf(12), 15: partOf(highest), 3: partOf(12, 13)}))
	if d.Last(0) != 12 || d.Last(15) != highest || d.Last(3) != 13 || d.Len(0) != 0 || d.Last(1) != 0 {
		t.Error("Last", d.Last(0), d.Last(15), d.Last(3))
	}
	is(t, d, 0, 12, dedup.Gone)
	is(t, d, 0, 13, dedup.Fresh)
	is(t, d, 15, highest, dedup.Gone)
	if d.Forget(0) != 0 || d.Last(0) != 0 {
		t.Error("Forget", d.Last(0))
	}
	is(t, d, 0, 12, dedup.Fresh)
}

// P12.2, P1: of nil, and of what New has not made.
func TestNilTable(t *testing.T) {
	var d *dedup.Table
	is(t, d, 3, 7, dedup.Wrong)
	is(t, d, -1, 0, dedup.Wrong)
	if d.Put(3, 7, api.Reply{}) != api.ErrNil || d.Put(-1, 7, api.Reply{Key: -1}) != api.ErrNil {
		t.Error("Put")
	}
	if d.Forget(3) != 0 || d.Forget(-1) != 0 || d.Last(3) != 0 || d.Len(3) != 0 || len(d.Bytes()) != 0 || d.Copy() != nil {
		t.Error("of nil")
	}
	if !d.Same(nil) || d.Same(dedup.New()) || dedup.New().Same(d) {
		t.Error("Same of nil")
	}
	var z dedup.Table
	is(t, &z, 3, 7, dedup.Fresh)
	put(t, &z, 3, 7, api.Reply{})
	if z.Len(3) != 1 || z.Same(dedup.New()) || len(z.Bytes()) != 160 {
		t.Error("zero")
	}
}

// P12.3: Same asks for the answers and the floors, of each nexus.
func TestSame(t *testing.T) {
	d := load(t, tableBytes(map[int]part{2: partOf(4, 7, 9), 15: partOf(0, 1)}))
	other := func(change func(x *dedup.Table)) *dedup.Table {
		x := d.Copy()
		change(x)
		return x
	}
	for i, x := range []*dedup.Table{
		dedup.New(),
		load(t, tableBytes(map[int]part{2: partOf(5, 7, 9), 15: partOf(0, 1)})),
		load(t, tableBytes(map[int]part{2: partOf(4, 7, 9), 15: partOf(0, 1), 0: partOf(1)})),
		load(t, tableBytes(map[int]part{2: partOf(4, 7, 10), 15: partOf(0, 1)})),
		load(t, tableBytes(map[int]part{2: partOf(4, 7, 9), 14: partOf(0, 1)})),
		other(func(x *dedup.Table) { x.Forget(15) }),
		other(func(x *dedup.Table) { x.Put(2, 8, api.Reply{}) }),
		other(func(x *dedup.Table) { x.Put(3, 8, api.Reply{}) }),
		other(func(x *dedup.Table) { x.Forget(15); x.Put(15, 1, api.Reply{Status: 1}) }),
		other(func(x *dedup.Table) { x.Forget(15); x.Put(15, 1, api.Reply{Key: 1}) }),
		other(func(x *dedup.Table) { x.Forget(15); x.Put(15, 1, api.Reply{Asc: 1}) }),
		other(func(x *dedup.Table) { x.Forget(15); x.Put(15, 1, api.Reply{Ascq: 1}) }),
		other(func(x *dedup.Table) { x.Forget(15); x.Put(15, 1, api.Reply{Data: []byte{0}}) }),
	} {
		if d.Same(x) || x.Same(d) || !x.Same(x) {
			t.Error("Same", i)
		}
	}
	x := other(func(x *dedup.Table) { x.Forget(15); x.Put(15, 1, api.Reply{Data: []byte{}}) })
	if !d.Same(x) || !x.Same(d) || !d.Same(d) {
		t.Error("not Same")
	}
}

// P12.3: a Copy is the same, and what is done with one is not seen in the other.
func TestCopy(t *testing.T) {
	d := dedup.New()
	for n := int64(1); n <= 70; n++ {
		put(t, d, 4, 2*n, api.Reply{Key: int(n)})
		put(t, d, 9, 2*n, api.Reply{Key: int(n)})
	}
	before := d.Bytes()
	c := d.Copy()
	if !c.Same(d) || !bytes.Equal(c.Bytes(), before) {
		t.Fatal("Copy")
	}
	put(t, c, 4, 51, api.Reply{Key: 200})
	put(t, c, 4, 1000, api.Reply{Key: 201})
	c.Forget(9)
	put(t, c, 0, 1, api.Reply{})
	if !bytes.Equal(d.Bytes(), before) {
		t.Error("the first one has changed")
	}
	after := c.Bytes()
	put(t, d, 4, 999, api.Reply{})
	d.Forget(4)
	if !bytes.Equal(c.Bytes(), after) {
		t.Error("the copy has changed")
	}
}

// P1: what is handed in is not kept, and what is answered is the caller's own.
func TestTableSharesNothing(t *testing.T) {
	d := dedup.New()
	data := []byte("abc")
	put(t, d, 1, 1, api.Reply{Data: data})
	data[0] = 'x'
	_, r := d.Check(1, 1)
	if string(r.Data) != "abc" {
		t.Error("Put keeps what is handed in")
	}
	r.Data[1] = 'x'
	_ = append(r.Data[:0], "yyy"...)
	b := d.Bytes()
	c := load(t, b)
	clear(b)
	for _, x := range []*dedup.Table{d, c, d.Copy()} {
		if _, r := x.Check(1, 1); string(r.Data) != "abc" {
			t.Error("it shares memory", string(r.Data))
		}
	}
	if !bytes.Equal(d.Bytes(), c.Bytes()) {
		t.Error("Bytes shares memory")
	}
}

// P12.2, P12.4, P12.5: any calls, one behind the other; a table that is loaded or copied goes on as the first one does.
func TestTableAtRandom(t *testing.T) {
	what, gone := map[int]int{}, 0
	for seed := range int64(60) {
		rnd := rand.New(rand.NewSource(seed))
		d, m := dedup.New(), model{}
		spread := 1 + rnd.Intn(300)
		for step := range 1500 {
			nexus, seq := rnd.Intn(3)*7, int64(1+step/8+rnd.Intn(spread))
			if rnd.Intn(50) == 0 {
				nexus, seq = rnd.Intn(20)-2, int64(rnd.Intn(4)-1)
			}
			x, r := d.Check(nexus, seq)
			if x != m.check(nexus, seq) || x == dedup.Done && !sameReply(r, m.kept[nexus][seq]) || x != dedup.Done && !isZero(r) {
				t.Fatal(seed, "Check", nexus, seq, x)
			}
			what[x]++
			r = api.Reply{Status: rnd.Intn(256), Key: rnd.Intn(256), Data: make([]byte, rnd.Intn(5))}
			rnd.Read(r.Data)
			if e, want := d.Put(nexus, seq, r), m.put(nexus, seq, r); e != want {
				t.Fatal(seed, "Put", nexus, seq, e, want)
			} else if e == api.OK && m.check(nexus, seq) == dedup.Gone {
				gone++
			}
			if rnd.Intn(300) == 0 {
				if n, want := d.Forget(nexus), m.forget(nexus); n != want {
					t.Fatal(seed, "Forget", n, want)
				}
			}
			if nexus >= 0 && nexus < 16 && (d.Len(nexus) != len(m.kept[nexus]) || d.Last(nexus) != m.last(nexus)) {
				t.Fatal(seed, "Len, Last", nexus)
			}
			switch rnd.Intn(100) {
			case 0:
				d = d.Copy()
			case 1:
				b := d.Bytes()
				if !bytes.Equal(b, m.bytes()) {
					t.Fatal(seed, "Bytes")
				}
				c := load(t, b)
				if !c.Same(d) || !d.Same(c) || !bytes.Equal(c.Bytes(), b) {
					t.Fatal(seed, "Load")
				}
				d = c
			}
		}
	}
	for x := dedup.Fresh; x <= dedup.Wrong; x++ {
		if what[x] < 500 {
			t.Error("too few", x, what[x])
		}
	}
	if gone < 50 {
		t.Error("too few that go at once", gone)
	}
}

// P12.4: what was put is done, with its answer, until 64 others with greater numbers are; and is never fresh again.
func TestOnce(t *testing.T) {
	kept, gone := 0, 0
	for seed := range int64(40) {
		rnd := rand.New(rand.NewSource(seed))
		d := dedup.New()
		was := map[int64]api.Reply{}
		for range 150 {
			seq := int64(1 + rnd.Intn(400))
			r := api.Reply{Key: rnd.Intn(256)}
			_, again := was[seq]
			if e := d.Put(8, seq, r); again && e != api.ErrState {
				t.Fatal(seed, "done twice", seq, e)
			} else if e == api.OK {
				was[seq] = r
			}
			for n, r := range was {
				greater := 0
				for o := range was {
					if o > n {
						greater++
					}
				}
				x, got := d.Check(8, n)
				if greater < 64 && (x != dedup.Done || !sameReply(got, r)) || greater >= 64 && x != dedup.Gone {
					t.Fatal(seed, "Check", n, x, greater)
				}
				if x == dedup.Done {
					kept++
				} else {
					gone++
				}
			}
		}
	}
	if kept < 1000 || gone < 1000 {
		t.Error("too few", kept, gone)
	}
}
