package raft_test

import (
	"math"
	"testing"

	"caisson/api"
	"caisson/entries"
	"caisson/raft"
)

// P10.1: what it may begin with, and what not.
func TestNew(t *testing.T) {
	g := newLog(t, 3, 2, 7, writes(2, 4, 5)...)
	for _, c := range []struct {
		me     int
		term   int64
		voted  int
		commit int64
		want   api.Errno
	}{
		{0, 5, -1, 3, api.OK}, {4, 5, 4, 6, api.OK}, {2, 9, 0, 4, api.OK}, {0, highest, -1, 3, api.OK},
		{-1, 5, -1, 3, api.ErrArg}, {5, 5, -1, 3, api.ErrArg}, {math.MinInt, 5, -1, 3, api.ErrArg}, {math.MaxInt, 5, -1, 3, api.ErrArg},
		{0, 4, -1, 3, api.ErrArg}, {0, 0, -1, 3, api.ErrArg}, {0, -1, -1, 3, api.ErrArg}, {0, highest + 1, -1, 3, api.ErrArg}, {0, math.MaxInt64, -1, 3, api.ErrArg}, {0, math.MinInt64, -1, 3, api.ErrArg},
		{0, 5, -2, 3, api.ErrArg}, {0, 5, 5, 3, api.ErrArg}, {0, 5, math.MinInt, 3, api.ErrArg}, {0, 5, math.MaxInt, 3, api.ErrArg},
		{0, 5, -1, 2, api.ErrArg}, {0, 5, -1, 7, api.ErrArg}, {0, 5, -1, -1, api.ErrArg}, {0, 5, -1, math.MaxInt64, api.ErrArg}, {0, 5, -1, math.MinInt64, api.ErrArg},
	} {
		r, e := raft.New(c.me, c.term, c.voted, g, c.commit)
		if e != c.want || (r == nil) != (e != api.OK) {
			t.Error("New", c, e)
		}
		if e == api.OK {
			is(t, r, raft.Info{Term: c.term, Voted: c.voted, Leader: -1, Commit: c.commit, Members: 7})
			has(t, r, writes(2, 4, 5)...)
		}
		if r, e := raft.New(c.me, c.term, c.voted, nil, c.commit); e != api.ErrNil || r != nil {
			t.Error("New of no log", c, e)
		}
	}
	// Of no entries the floor's term counts.
	for _, c := range []struct {
		term int64
		want api.Errno
	}{{2, api.OK}, {1, api.ErrArg}} {
		if _, e := raft.New(0, c.term, -1, newLog(t, 3, 2, 7), 3); e != c.want {
			t.Error("New", c, e)
		}
	}
	if _, e := raft.New(0, 0, -1, newLog(t, 0, 0, 7), 0); e != api.OK {
		t.Error("New of nothing", e)
	}
}

// P10.1: the members are those as of the top, agreed on or not.
func TestInfoTellsTheMembersOfTheTop(t *testing.T) {
	g := newLog(t, 0, 0, 7, write(1, "a"), config(1, 15), write(2, "b"))
	r := newRaft(t, 0, 2, -1, g, 0)
	is(t, r, raft.Info{Term: 2, Voted: -1, Leader: -1, Members: 15})
	if r.Log() != g {
		t.Error("Log")
	}
}

// nothing holds of nil, and of a replica that New did not make.
func nothing(t *testing.T, r *raft.Raft) {
	t.Helper()
	r.Draw(1)
	is(t, r, raft.Info{})
	if r.Log() != nil || len(r.Lacking()) != 0 {
		t.Error("Log, Lacking")
	}
	sends(t, r.Tick())
	sends(t, r.Parts())
	for kind := range 11 {
		sends(t, r.Take(api.Msg{Kind: kind, From: 1, Term: 1}))
		if at, l, e := r.Offer(kind, []byte{1}); at != 0 || len(l) != 0 || e != api.ErrNil {
			t.Error("Offer", kind, at, l, e)
		}
		if l, e := r.Settle(api.Msg{Kind: kind, From: 1, Term: 1, At: 1, AtTerm: 1, Commit: 1}); len(l) != 0 || e != api.ErrNil {
			t.Error("Settle", kind, l, e)
		}
	}
	if m, e := r.Part(1, nil); !sameMsg(m, api.Msg{}) || e != api.ErrNil {
		t.Error("Part", m, e)
	}
	for _, at := range []int64{-1, 0, 1} {
		if e := r.Floor(at); e != api.ErrNil {
			t.Error("Floor", e)
		}
	}
}

// P10.1, P1: of nil.
func TestNil(t *testing.T) {
	nothing(t, nil)
	nothing(t, new(raft.Raft))
}

// P10.1: without a draw a timeout is Least and twice me.
func TestTimeoutsWithoutADraw(t *testing.T) {
	for me := range 5 {
		r := begun(t, me, 31)
		for range 3 {
			if n, _ := untilItAsks(t, r); n != 10+2*me {
				t.Error("the timeout of", me, "is", n)
			}
		}
	}
}

// P10.1: draws are taken one behind the other, each with an asking: the first timeout is there already.
func TestDraws(t *testing.T) {
	r := begun(t, 3, 31)
	for _, n := range []int{7, -1, 10, 19, -10, 123, math.MinInt, math.MaxInt} {
		r.Draw(n)
	}
	for i, want := range []int{16, 17, 19, 10, 19, 10, 13, 12, 17, 16, 16} {
		if n, _ := untilItAsks(t, r); n != want {
			t.Error("the timeout number", i, "is", n, "not", want)
		}
	}
	r.Draw(1)
	if n, _ := untilItAsks(t, r); n != 16 {
		t.Error("a draw is for the timeout that is taken next, not", n)
	}
	if n, _ := untilItAsks(t, r); n != 11 {
		t.Error("the timeout is", n)
	}
}

// P10.1: at most 4096 draws wait.
func TestDrawsUpToTheLimit(t *testing.T) {
	r := begun(t, 0, 31)
	for range api.MaxLog {
		r.Draw(1)
	}
	r.Draw(9)
	untilItAsks(t, r)
	for i := range api.MaxLog {
		if n, _ := untilItAsks(t, r); n != 11 {
			t.Fatal("the timeout number", i, "is", n)
		}
	}
	if n, _ := untilItAsks(t, r); n != 10 {
		t.Error("behind all draws the timeout is", n)
	}
	// There is room again.
	r.Draw(5)
	untilItAsks(t, r)
	if n, _ := untilItAsks(t, r); n != 15 {
		t.Error("the timeout is", n)
	}
}

// P10.2: who is no Leader sends nothing till its timeout; then it asks, and its term stays.
func TestTickAsks(t *testing.T) {
	r := newRaft(t, 1, 5, 2, newLog(t, 3, 2, 27, writes(2, 4)...), 3)
	ticks(t, r, 11)
	is(t, r, raft.Info{Term: 5, Voted: 2, Leader: -1, Commit: 3, Members: 27})
	var want []api.Msg
	for _, to := range []int{0, 3, 4} {
		want = append(want, api.Msg{Kind: api.Ask, From: 1, To: to, Term: 6, At: 5, AtTerm: 4})
	}
	sends(t, r.Tick(), want...)
	is(t, r, raft.Info{Term: 5, Voted: 2, Role: api.Asker, Leader: -1, Commit: 3, Members: 27})
	ticks(t, r, 11)
	sends(t, r.Tick(), want...)
}

// P10.2: a Candidate that is not voted for asks again, in its term.
func TestTickOfACandidate(t *testing.T) {
	r := begun(t, 0, 7)
	candidate(t, r)
	is(t, r, raft.Info{Term: 1, Role: api.Candidate, Leader: -1, Members: 7})
	ticks(t, r, 9)
	sends(t, r.Tick(), api.Msg{Kind: api.Ask, From: 0, To: 1, Term: 2}, api.Msg{Kind: api.Ask, From: 0, To: 2, Term: 2})
	is(t, r, raft.Info{Term: 1, Role: api.Asker, Leader: -1, Members: 7})
}

// P10.2: who is no member, or has the greatest term, never asks.
func TestTickDoesNotAsk(t *testing.T) {
	ticks(t, begun(t, 3, 7), 100)
	ticks(t, newRaft(t, 0, highest, -1, newLog(t, 0, 0, 7), 0), 100)
	ticks(t, newRaft(t, 0, highest, -1, newLog(t, 0, 0, 1), 0), 100)
	r := newRaft(t, 0, highest-1, -1, newLog(t, 0, 0, 1), 0)
	ticks(t, r, 10)
	is(t, r, raft.Info{Term: highest, Role: api.Leader, Commit: 1, Members: 1, Sure: 1})
	// It waits all the same: as soon as it is a member, it asks.
	r = begun(t, 3, 7)
	ticks(t, r, 30)
	r.Take(api.Msg{Kind: api.Add, From: 0, To: 3, Term: 1, L: []api.Entry{config(1, 15)}})
	if n, _ := untilItAsks(t, r); n != 16 {
		t.Error("it asks behind", n)
	}
	r = newRaft(t, 3, 1, -1, newLog(t, 0, 0, 7), 0)
	ticks(t, r, 30)
	_, e := r.Settle(api.Msg{Kind: api.Part, From: 0, To: 3, Term: 1, At: 1, AtTerm: 1, Commit: 15})
	ok(t, e)
	if n, _ := untilItAsks(t, r); n != 1 {
		t.Error("it asks behind", n)
	}
}

// P10.2, and the document's example.
func TestAlone(t *testing.T) {
	r := begun(t, 0, 1)
	ticks(t, r, 9)
	is(t, r, raft.Info{Voted: -1, Leader: -1, Members: 1})
	ticks(t, r, 1)
	is(t, r, raft.Info{Term: 1, Role: api.Leader, Commit: 1, Members: 1, Sure: 1})
	has(t, r, noop(1))
	ticks(t, r, 4)
	is(t, r, raft.Info{Term: 1, Role: api.Leader, Commit: 1, Members: 1, Sure: 5})
	at, l, e := r.Offer(api.Write, []byte("a"))
	if at != 2 || len(l) != 0 || e != api.OK {
		t.Error("Offer", at, l, e)
	}
	is(t, r, raft.Info{Term: 1, Role: api.Leader, Commit: 2, Members: 1, Sure: 5})
	at, l, e = r.Offer(api.Config, []byte{3})
	if at != 3 || e != api.OK {
		t.Error("Offer", at, e)
	}
	sends(t, l, api.Msg{Kind: api.Add, From: 0, To: 1, Term: 1, Commit: 2, L: []api.Entry{noop(1), write(1, "a"), config(1, 3)}})
	is(t, r, raft.Info{Term: 1, Role: api.Leader, Commit: 2, Members: 3})
}

// P10.2: a Leader's tick begins a round, and tells it to all others, with entries to those that lack some.
func TestTickOfALeader(t *testing.T) {
	r := leaderOf(t, 1, 7)
	is(t, r, raft.Info{Term: 1, Voted: 1, Role: api.Leader, Leader: 1, Members: 7})
	r.Take(addTold(2, 1, 1, 1))
	is(t, r, raft.Info{Term: 1, Voted: 1, Role: api.Leader, Leader: 1, Commit: 1, Members: 7})
	beat := func(to int, commit, round int64) api.Msg {
		return api.Msg{Kind: api.Beat, From: 1, To: to, Term: 1, Commit: commit, Round: round}
	}
	add := api.Msg{Kind: api.Add, From: 1, To: 0, Term: 1, Commit: 1, L: []api.Entry{noop(1)}}
	sends(t, r.Tick(), beat(0, 0, 2), add, beat(2, 1, 2))
	sends(t, r.Tick(), beat(0, 0, 3), add, beat(2, 1, 3))
	r.Take(addTold(0, 1, 1, 1))
	sends(t, r.Tick(), beat(0, 1, 4), beat(2, 1, 4))
	ok(t, r.Floor(1))
	sends(t, r.Tick(), beat(0, 1, 5), beat(2, 1, 5))
}

// P10.2: at most 16 entries go in a message, and none to who needs an image.
func TestTickSendsSixteen(t *testing.T) {
	r := agreedLeader(t, 0, 7)
	for range 40 {
		_, _, e := r.Offer(api.Write, []byte("w"))
		ok(t, e)
	}
	l := r.Tick()
	if len(l) != 4 || l[1].At != 1 || l[1].AtTerm != 1 || len(l[1].L) != 16 || l[3].To != 2 || len(l[3].L) != 16 {
		t.Error("Tick", l)
	}
	l = r.Take(addTold(1, 0, 1, 33))
	if len(l) != 1 || l[0].At != 33 || len(l[0].L) != 8 || l[0].Commit != 33 {
		t.Error("Take", l)
	}
	ok(t, r.Floor(33))
	sends(t, r.Tick()[2:], api.Msg{Kind: api.Beat, From: 0, To: 2, Term: 1, Commit: 1, Round: 3})
}

// P10.1: the round that is sure is one that a majority has heard, itself its own.
func TestSure(t *testing.T) {
	r := leaderOf(t, 0, 31)
	sure := func(want int64) {
		t.Helper()
		if i := r.Info(); i.Sure != want {
			t.Fatal("Sure", i.Sure, "not", want)
		}
	}
	for range 9 {
		r.Tick()
	}
	sure(0)
	r.Take(beatTold(1, 0, 1, 7))
	sure(0)
	r.Take(beatTold(2, 0, 1, 4))
	sure(4)
	r.Take(beatTold(3, 0, 1, 10))
	sure(7)
	r.Take(beatTold(1, 0, 1, 3)) // an elder one that comes late
	sure(7)
	r.Take(beatTold(4, 0, 1, 11)) // a round that is not yet
	sure(7)
	r.Take(beatTold(4, 0, 1, 10))
	sure(10)
	r.Tick()
	sure(10)
	r.Take(api.Msg{Kind: api.Beat, From: 3, To: 0, Term: 2})
	sure(0)
	// Who is no member does not count.
	r = agreedLeader(t, 0, 3)
	r.Take(beatTold(2, 0, 1, 1))
	sure(0)
	r.Take(beatTold(1, 0, 1, 1))
	sure(1)
}

// P1: a replica whose log New did not make is no member.
func TestZeroLog(t *testing.T) {
	r := newRaft(t, 0, 0, -1, new(entries.Log), 0)
	ticks(t, r, 50)
	is(t, r, raft.Info{Voted: -1, Leader: -1})
}
