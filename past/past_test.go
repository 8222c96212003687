package past_test

import (
	"math/rand"
	"slices"
	"testing"

	"caisson/api"
	"caisson/node"
	"caisson/past"
)

// P23.1: which answers are idle.
func TestIdle(t *testing.T) {
	for _, r := range []api.Reply{standing(), {Status: api.Busy}, {Status: api.TaskFull}} {
		if !past.Idle(r) {
			t.Error(r)
		}
	}
	for _, r := range []api.Reply{
		{}, conflict(), check(2, 4, 0), check(2, 0, 11), check(3, 4, 11), check(0, 4, 11), check(2, 4, 12), check(2, 5, 11), check(5, 0x24, 0), check(6, 0x2a, 5),
		{Status: 0x102, Key: 2, Asc: 4, Ascq: 11}, {Status: api.Good, Key: 2, Asc: 4, Ascq: 11}, {Status: -1}, {Status: 0x108}, {Status: 0x128}, {Status: 1 << 62},
	} {
		if past.Idle(r) {
			t.Error(r)
		}
	}
}

// P23.1: which calls count.
func TestCounts(t *testing.T) {
	for _, x := range []struct {
		c    past.Call
		want bool
	}{
		{past.Call{}, true},
		{past.Call{Told: true}, true},
		{past.Call{Told: true, R: standing()}, false},
		{past.Call{R: standing()}, true}, // it was told nothing
		{past.Call{A: read(0, 1)}, true},
		{past.Call{A: read(0, 1), Told: true, R: api.Reply{Status: api.Busy}}, false},
		{past.Call{A: read(0, 1), Told: true, R: check(5, 0x21, 0)}, true},
		{past.Call{A: ports()}, false},
		{past.Call{A: ports(), Told: true}, false},
		{past.Call{A: past.Ask{Cdb: []byte{0xa3}}, Told: true}, false},
		{past.Call{A: past.Ask{Cdb: []byte{0xa2, 0xa3}}, Told: true}, true},
		{past.Call{A: past.Ask{Cdb: []byte{}}, Told: true}, true},
		{past.Call{Conn: 99, A: read(0, 1)}, true},
	} {
		if past.Counts(x.c) != x.want {
			t.Errorf("%+v", x.c)
		}
	}
}

// at is a call that was told from begin to end.
func at(begin, end int, a past.Ask, r api.Reply) past.Call {
	return past.Call{A: a, Begin: begin, End: end, Told: true, R: r}
}

func replay(t *testing.T, l []past.Call, order []int, want bool) {
	t.Helper()
	if ok, e := past.Replay(small(), l, order); ok != want || e != api.OK {
		t.Errorf("Replay %v: %v %v", order, ok, e)
	}
}

func linear(t *testing.T, l []past.Call, want bool) {
	t.Helper()
	if ok, e := past.Linear(small(), l); ok != want || e != api.OK {
		t.Errorf("Linear: %v %v", ok, e)
	}
}

// The chapter's example.
func TestExample(t *testing.T) {
	w, r := at(1, 2, write(1, 1, 7), good(nil)), at(3, 4, read(1, 1), good(fill(0, 1)))
	linear(t, []past.Call{w, r}, false)
	r.Begin = 1
	linear(t, []past.Call{w, r}, true)
	linear(t, []past.Call{r, w}, true)
}

// P23.2: what is an order, and what is none.
func TestOrder(t *testing.T) {
	w, r := at(1, 5, write(1, 1, 7), good(nil)), at(5, 9, read(1, 1), good(fill(7, 1)))
	lost := past.Call{A: write(1, 1, 7), Begin: 3}
	l := []past.Call{w, r, lost, at(1, 2, read(1, 1), standing()), at(1, 2, ports(), good(nil))}
	for _, order := range [][]int{{0, 1}, {0, 2, 1}, {2, 0, 1}, {2, 1, 0}, {0, 1, 2}} { // the one ends when the other one begins
		replay(t, l, order, true)
	}
	for _, order := range [][]int{
		nil, {0}, {1}, {2}, {1, 2}, // one is missing
		{1, 0}, {1, 0, 2}, // explains nothing
		{0, 0, 1}, {0, 1, 1}, {0, 1, 0}, {2, 0, 2, 1}, // twice
		{0, 1, 3}, {3, 0, 1}, {0, 1, 4}, {4, 0, 1}, // they do not count
		{0, 1, 5}, {-1, 0, 1}, {0, 1, -1 << 63}, {0, 1, 1<<63 - 1}, // there are none
	} {
		replay(t, l, order, false)
	}
	l[1].Begin = 6 // now w is ahead of it
	replay(t, l, []int{2, 0, 1}, true)
	replay(t, l, []int{2, 1, 0}, false)
	l[2].Begin = 10 // r is ahead of the one that was not told
	replay(t, l, []int{0, 1}, true)
	replay(t, l, []int{0, 1, 2}, true)
	replay(t, l, []int{0, 2, 1}, false)
	replay(t, l, []int{2, 0, 1}, false)
	l[2].End = 4 // the end of one that was not told says nothing
	l[2].Begin = 5
	replay(t, l, []int{0, 1, 2}, true)
	replay(t, l, []int{0, 2, 1}, true)
	replay(t, nil, nil, true)
	replay(t, nil, []int{0}, false)
	replay(t, []past.Call{lost}, nil, true)
}

// P23.2: each part of an answer is held against what is answered.
func TestAnswers(t *testing.T) {
	wrong := at(1, 2, write(9, 1, 7), check(5, 0x21, 0))
	replay(t, []past.Call{wrong}, []int{0}, true)
	for _, r := range []api.Reply{
		{}, conflict(), check(6, 0x21, 0), check(5, 0x20, 0), check(5, 0x21, 1), {Status: api.Check, Key: 5, Asc: 0x21, Data: []byte{0}}, {Status: 0x102, Key: 5, Asc: 0x21},
	} {
		replay(t, []past.Call{at(1, 2, wrong.A, r)}, []int{0}, false)
		linear(t, []past.Call{at(1, 2, wrong.A, r)}, false)
	}
	for _, b := range [][]byte{nil, fill(0, 1)[:63], append(fill(0, 1), 0), fill(1, 1)} {
		replay(t, []past.Call{at(1, 2, read(1, 1), good(b))}, []int{0}, false)
		linear(t, []past.Call{at(1, 2, read(1, 1), good(b))}, false)
	}
	replay(t, []past.Call{at(1, 2, write(1, 1, 1), good([]byte{}))}, []int{0}, true) // no data are no data
	replay(t, []past.Call{at(1, 2, read(1, 1), good(fill(0, 1)))}, []int{0}, true)
}

// P23.2: what is refused, and in which order.
func TestRefused(t *testing.T) {
	ok := at(1, 2, write(1, 1, 7), good(nil))
	far, back := ok, ok
	back.Begin, back.End = 2, 1
	refused := func(c node.Conf, l []past.Call, order []int, first, second api.Errno) {
		t.Helper()
		if is, e := past.Replay(c, l, order); is || e != first {
			t.Errorf("Replay %v %v", is, e)
		}
		if is, e := past.Linear(c, l); is || e != second {
			t.Errorf("Linear %v %v", is, e)
		}
	}
	nine := slices.Repeat([]past.Call{ok}, 9)
	for _, c := range []node.Conf{{}, confOf(6, 1, 8, 1), confOf(1, 4, 8, 1), confOf(1, 1, 65, 1), confOf(1, 1, 8, 5)} {
		refused(c, nil, nil, api.ErrArg, api.ErrArg)
		refused(c, nine, []int{7}, api.ErrArg, api.ErrArg)
	}
	for _, on := range []int{-1 << 63, -1, 16, 1<<63 - 1} {
		far.Conn = on
		refused(small(), []past.Call{ok, far}, []int{0, 1}, api.ErrArg, api.ErrArg)
		refused(small(), []past.Call{far}, []int{9}, api.ErrArg, api.ErrArg)
		refused(small(), append(nine, far), nil, api.ErrArg, api.ErrArg)
		far := far // one that does not count may be of any connection
		far.R = standing()
		replay(t, []past.Call{ok, far}, []int{0}, true)
		linear(t, []past.Call{ok, far}, true)
		far.Told = false
		refused(small(), []past.Call{ok, far}, []int{0}, api.ErrArg, api.ErrArg)
	}
	if is, e := past.Linear(small(), nine); is || e != api.ErrSize {
		t.Error(is, e)
	}
	if is, e := past.Linear(small(), append(nine, back)); is || e != api.ErrSize {
		t.Error(is, e)
	}
	if is, e := past.Linear(small(), []past.Call{back}); is || e != api.ErrArg {
		t.Error(is, e)
	}
	replay(t, []past.Call{back}, []int{0}, true) // which Replay does not ask
	back.R = standing()
	linear(t, []past.Call{back}, true)
	back.R, back.Told = api.Reply{}, false
	linear(t, []past.Call{back}, true)
}

// P23.2: at most eight that count; of the others there may be any number.
func TestMost(t *testing.T) {
	if past.Most != 8 {
		t.Fatal(past.Most)
	}
	l := []past.Call{at(50, 60, read(1, 1), good(fill(7, 1)))}
	for n := range 7 {
		l = append(l, at(1, 60, write(1, 1, byte(n+1)), good(nil)))
	}
	linear(t, l, true)
	for range 100 {
		l = append(l, at(3, 2, read(1, 1), standing()), at(1, 2, ports(), good(nil)))
	}
	linear(t, l, true)
	l[0].R = good(fill(9, 1))
	linear(t, l, false)
	for i := range l[:8] {
		l[i].Told = false
	}
	linear(t, l, true)
	l = append(l, past.Call{A: read(1, 1)})
	if ok, e := past.Linear(small(), l); ok || e != api.ErrSize {
		t.Error(ok, e)
	}
}

// P23.2: one that was not told may have been done, at any time behind its begin, or not.
func TestUntold(t *testing.T) {
	w := past.Call{A: write(1, 1, 7), Begin: 10}
	for _, x := range []struct {
		begin, end int
		c          byte
		want       bool
	}{{1, 2, 0, true}, {1, 9, 7, false}, {1, 10, 7, true}, {20, 21, 7, true}, {20, 21, 0, true}, {20, 21, 8, false}} {
		linear(t, []past.Call{at(x.begin, x.end, read(1, 1), good(fill(x.c, 1))), w}, x.want)
	}
	old, new := at(30, 31, read(1, 1), good(fill(0, 1))), at(20, 21, read(1, 1), good(fill(7, 1)))
	linear(t, []past.Call{w, old, new}, false) // it is not undone
	w2 := w
	w2.A = unmap(1, 1)
	linear(t, []past.Call{w, w2, old, new}, true)
}

// P23.2, P23.4: Replay and Linear, of calls at random, against all lists of their numbers and the chapter's words.
func TestAgainstAll(t *testing.T) {
	orders := allOrders(4)
	yes := 0
	for seed := range int64(400) {
		r := rand.New(rand.NewSource(seed))
		c := confOf(1+r.Intn(5), 1+r.Intn(2), 2, 1)
		l := anyCalls(t, r, c, 4)
		for i := range l { // so that Linear answers
			l[i].End = max(l[i].Begin, l[i].End)
		}
		some := false
		for _, order := range orders {
			want := isOrder(l, order) && explains(c, l, order)
			some = some || want
			if ok, e := past.Replay(c, l, order); ok != want || e != api.OK {
				t.Fatalf("seed %d: Replay %v: %v %v of %+v", seed, order, ok, e, l)
			}
		}
		if ok, e := past.Linear(c, l); ok != some || e != api.OK {
			t.Fatalf("seed %d: Linear %v %v of %+v", seed, ok, e, l)
		}
		if some {
			yes++
		}
	}
	if yes < 50 || yes > 350 {
		t.Error("one answer is rare:", yes)
	}
}

// P23.3: what was done one after another is explained in that order.
func TestOneAfterAnother(t *testing.T) {
	for seed := range int64(100) {
		r := rand.New(rand.NewSource(seed))
		c := confOf(1, 1+r.Intn(3), 2+r.Intn(5), 1)
		w := newWorld(t, c)
		var l []past.Call
		var order []int
		for n := range 40 {
			l = append(l, told(w, r.Intn(16), anyAsk(r, c, n), 2*n, 2*n+1))
			order = append(order, n)
		}
		if ok, e := past.Replay(c, l, order); !ok || e != api.OK {
			t.Fatal(seed, ok, e)
		}
		if ok, e := past.Linear(c, l[:8]); !ok || e != api.OK {
			t.Fatal(seed, ok, e)
		}
	}
}

// P23.5: more calls that were not told, or idle, a later End, an earlier Begin take nothing away.
func TestMoreTakesNothingAway(t *testing.T) {
	for seed := range int64(300) {
		r := rand.New(rand.NewSource(seed))
		c := confOf(1, 1, 2, 1)
		w := newWorld(t, c)
		var l []past.Call
		for n := range 5 {
			l = append(l, told(w, r.Intn(2), anyAsk(r, c, n), 10*n-r.Intn(30), 10*n+r.Intn(30)))
		}
		for range 3 {
			if ok, e := past.Linear(c, l); !ok || e != api.OK {
				t.Fatalf("seed %d: %v %v of %+v", seed, ok, e, l)
			}
			x := past.Call{Conn: r.Intn(2), A: anyAsk(r, c, 9), Begin: r.Intn(60)}
			switch i := r.Intn(5); r.Intn(4) {
			case 0:
				l = append(l, x)
			case 1:
				x.Told, x.R = true, standing()
				l = append(l, x)
			case 2:
				l[i].Begin -= r.Intn(30)
			case 3:
				l[i].End += r.Intn(30)
			}
		}
	}
}

// Rules 4 to 6: calls and orders are not changed, and the answer is the same again.
func TestAgain(t *testing.T) {
	r := rand.New(rand.NewSource(1))
	for range 50 {
		l := anyCalls(t, r, small(), 6)
		for i := range l {
			l[i].End = max(l[i].Begin, l[i].End)
		}
		order := r.Perm(6)
		l2, order2 := slices.Clone(l), slices.Clone(order)
		for i := range l2 {
			l2[i].A.Cdb, l2[i].A.Data, l2[i].R.Data = slices.Clone(l[i].A.Cdb), slices.Clone(l[i].A.Data), slices.Clone(l[i].R.Data)
		}
		first, _ := past.Linear(small(), l)
		second, _ := past.Replay(small(), l, order)
		for i := range l2 {
			if l[i].Begin != l2[i].Begin || l[i].End != l2[i].End || !same(l[i].R, l2[i].R) || string(l[i].A.Data) != string(l2[i].A.Data) || string(l[i].A.Cdb) != string(l2[i].A.Cdb) {
				t.Fatal("changed", i)
			}
		}
		again, _ := past.Linear(small(), l2)
		and, _ := past.Replay(small(), l2, order2)
		if first != again || second != and || !slices.Equal(order, order2) {
			t.Fatal("another answer")
		}
	}
}
