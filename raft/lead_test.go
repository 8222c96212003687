package raft_test

import (
	"math"
	"slices"
	"testing"

	"caisson/api"
	"caisson/raft"
)

// refusesOffer holds that nothing has changed.
func refusesOffer(t *testing.T, r *raft.Raft, kind int, cmd []byte, want api.Errno) {
	t.Helper()
	before, log := r.Info(), r.Log()
	if at, l, e := r.Offer(kind, cmd); at != 0 || len(l) != 0 || e != want {
		t.Errorf("Offer(%d, %d bytes) = %d %v %v, not %v", kind, len(cmd), at, l, e, want)
	}
	if r.Info() != before || r.Log() != log {
		t.Error("a refused Offer changed it")
	}
}

// P10.4: an entry is added behind the others, and goes to all of them.
func TestOffer(t *testing.T) {
	r := agreedLeader(t, 1, 7)
	for i, kind := range []int{api.Write, api.Noop, api.Write} {
		cmd := []byte{byte(i), 9}
		at, l, e := r.Offer(kind, cmd)
		if at != int64(2+i) || e != api.OK {
			t.Fatal("Offer", at, e)
		}
		clear(cmd)
		all := entriesOf(r.Log())
		if !sameEntry(all[i+1], api.Entry{Kind: kind, Term: 1, Cmd: []byte{byte(i), 9}}) {
			t.Error("its log has", all)
		}
		add := api.Msg{Kind: api.Add, From: 1, To: 0, Term: 1, At: 1, AtTerm: 1, L: all[1:], Commit: 1}
		two := add
		two.To = 2
		sends(t, l, add, two)
		clear(l[0].L[0].Cmd)
	}
	is(t, r, raft.Info{Term: 1, Voted: 1, Role: api.Leader, Leader: 1, Commit: 1, Members: 7})
	r.Take(addTold(0, 1, 1, 3))
	is(t, r, raft.Info{Term: 1, Voted: 1, Role: api.Leader, Leader: 1, Commit: 3, Members: 7})
	if all := entriesOf(r.Log()); all[1].Cmd[1] != 9 {
		t.Error("messages share memory with the log")
	}
}

// P10.4: who does not lead is offered nothing.
func TestOfferToWhoDoesNotLead(t *testing.T) {
	for _, become := range []func(*testing.T, *raft.Raft) []api.Msg{nil, asker, candidate} {
		r := begun(t, 0, 7)
		if become != nil {
			become(t, r)
		}
		for _, kind := range []int{-1, api.Noop, api.Write, api.Config, 3} {
			refusesOffer(t, r, kind, []byte{3}, api.ErrState)
			refusesOffer(t, r, kind, make([]byte, 9999), api.ErrState)
		}
	}
	r := leaderOf(t, 0, 7)
	r.Take(api.Msg{Kind: api.Beat, From: 1, To: 0, Term: 2})
	refusesOffer(t, r, api.Write, nil, api.ErrState)
}

// P10.4: entries that cannot be.
func TestOfferOfWhatCannotBe(t *testing.T) {
	r := agreedLeader(t, 0, 7)
	for _, kind := range []int{math.MinInt, -1, 3, 0x41, math.MaxInt} {
		refusesOffer(t, r, kind, nil, api.ErrArg)
	}
	for _, kind := range []int{api.Noop, api.Write} {
		refusesOffer(t, r, kind, make([]byte, 4081), api.ErrArg)
		if _, _, e := r.Offer(kind, make([]byte, 4080)); e != api.OK {
			t.Error("Offer", e)
		}
	}
	for _, cmd := range [][]byte{nil, {0}, {32}, {255}, {3, 3}, {15, 0}, make([]byte, 4081)} {
		refusesOffer(t, r, api.Config, cmd, api.ErrArg)
	}
}

// P10.4: members change one at a time, and a leader does not let go of itself.
func TestOfferOfMembers(t *testing.T) {
	for mask := range 32 {
		r := agreedLeader(t, 0, 7)
		one := mask == 3 || mask == 5 || mask == 15 || mask == 23
		if !one {
			refusesOffer(t, r, api.Config, []byte{byte(mask)}, api.ErrArg)
			continue
		}
		at, l, e := r.Offer(api.Config, []byte{byte(mask)})
		if at != 2 || e != api.OK || len(l) != len(othersOf(0, mask)) {
			t.Error("Offer of", mask, at, l, e)
		}
		for i, to := range othersOf(0, mask) {
			if l[i].To != to || l[i].Kind != api.Add {
				t.Error("Offer of", mask, l)
			}
		}
		is(t, r, raft.Info{Term: 1, Role: api.Leader, Commit: 1, Members: mask})
	}
}

// P10.4: the next change waits till the last one is agreed on, and for an entry of the leader's term.
func TestOfferOfMembersWaits(t *testing.T) {
	r := leaderOf(t, 0, 7)
	for _, cmd := range [][]byte{{3}, nil, {0}, {7}} { // ahead of ErrArg
		refusesOffer(t, r, api.Config, cmd, api.ErrState)
	}
	r.Take(addTold(1, 0, 1, 1))
	_, _, e := r.Offer(api.Config, []byte{15})
	ok(t, e)
	refusesOffer(t, r, api.Config, []byte{31}, api.ErrState)
	_, _, e = r.Offer(api.Write, nil)
	ok(t, e)
	r.Take(addTold(1, 0, 1, 2))
	refusesOffer(t, r, api.Config, []byte{31}, api.ErrState)
	r.Take(addTold(3, 0, 1, 2)) // it counts from the change on
	is(t, r, raft.Info{Term: 1, Role: api.Leader, Commit: 2, Members: 15})
	_, _, e = r.Offer(api.Config, []byte{31})
	ok(t, e)
	// What is agreed on of a term before is not enough.
	r = newRaft(t, 0, 1, -1, newLog(t, 0, 0, 7, writes(1, 1)...), 2)
	lead(t, r)
	refusesOffer(t, r, api.Config, []byte{15}, api.ErrState)
	r.Take(addTold(2, 0, 2, 3))
	_, _, e = r.Offer(api.Config, []byte{15})
	ok(t, e)
	// The floor may be at the place that is agreed on.
	r = agreedLeader(t, 0, 7)
	ok(t, r.Floor(1))
	_, _, e = r.Offer(api.Config, []byte{15})
	ok(t, e)
}

// P10.4: a full log.
func TestOfferToAFullLog(t *testing.T) {
	r := begun(t, 0, 1)
	ticks(t, r, 10)
	for range api.MaxLog - 1 {
		_, _, e := r.Offer(api.Write, nil)
		ok(t, e)
	}
	refusesOffer(t, r, api.Write, nil, api.ErrFull)
	refusesOffer(t, r, api.Config, []byte{3}, api.ErrFull)
	refusesOffer(t, r, api.Config, []byte{1}, api.ErrArg)
	refusesOffer(t, r, api.Write, make([]byte, 4081), api.ErrArg)
	refusesOffer(t, r, 9, nil, api.ErrArg)
	ok(t, r.Floor(1))
	if at, _, e := r.Offer(api.Write, nil); at != api.MaxLog+1 || e != api.OK {
		t.Error("Offer", at, e)
	}
	refusesOffer(t, r, api.Write, nil, api.ErrFull)
	is(t, r, raft.Info{Term: 1, Role: api.Leader, Commit: api.MaxLog + 1, Members: 1, Sure: 1})
}

// P10.4, P10.2: two of two agree; when one of them leaves, the other one is enough.
func TestAMemberLeaves(t *testing.T) {
	r := agreedLeader(t, 0, 3)
	_, _, e := r.Offer(api.Write, nil)
	ok(t, e)
	is(t, r, raft.Info{Term: 1, Role: api.Leader, Commit: 1, Members: 3})
	at, l, e := r.Offer(api.Config, []byte{1})
	if at != 3 || len(l) != 0 || e != api.OK {
		t.Error("Offer", at, l, e)
	}
	is(t, r, raft.Info{Term: 1, Role: api.Leader, Commit: 3, Members: 1, Sure: 1})
	ticks(t, r, 3)
	// What comes of the one that left sends nothing.
	sends(t, r.Take(addTold(1, 0, 1, 1)))
	sends(t, r.Take(api.Msg{Kind: api.AddTold, From: 1, To: 0, Term: 1}))
}

// P10.3: who leads and is no member, and has that agreed on, leads no more. It can become so by an image alone.
func TestWhoIsNoMemberLeadsNoMore(t *testing.T) {
	r := begun(t, 0, 7)
	candidate(t, r)
	l, e := r.Settle(api.Msg{Kind: api.Part, From: 3, To: 0, Term: 1, At: 5, AtTerm: 1, Commit: 14})
	ok(t, e)
	sends(t, l, addTold(0, 3, 1, 5))
	is(t, r, raft.Info{Term: 1, Role: api.Candidate, Leader: -1, Commit: 5, Members: 14})
	// It does not count itself any more.
	sends(t, r.Take(voteTold(1, 0, 1)))
	is(t, r, raft.Info{Term: 1, Role: api.Candidate, Leader: -1, Commit: 5, Members: 14})
	ticks(t, r, 6)
	sends(t, r.Take(voteTold(2, 0, 1)))
	is(t, r, raft.Info{Term: 1, Leader: -1, Commit: 5, Members: 14})
	has(t, r, noop(1))
	// It waits anew: by another image it is a member again.
	ticks(t, r, 2)
	_, e = r.Settle(api.Msg{Kind: api.Part, From: 3, To: 0, Term: 1, At: 7, AtTerm: 1, Commit: 15})
	ok(t, e)
	if n, _ := untilItAsks(t, r); n != 8 {
		t.Error("it asks behind", n)
	}
}

// P10.4: the floor is moved up to what is agreed on.
func TestFloor(t *testing.T) {
	r := newRaft(t, 1, 6, 3, newLog(t, 2, 1, 7, write(2, "a"), config(2, 15), write(4, "b"), write(4, "c")), 5)
	for _, at := range []int64{math.MinInt64, -1, 0, 1, 6, 7, math.MaxInt64} {
		if e := r.Floor(at); e != api.ErrArg {
			t.Error("Floor", at, e)
		}
	}
	floor := func(want ...int64) {
		t.Helper()
		at, term, members := r.Log().Floor()
		if got := []int64{at, term, int64(members)}; !slices.Equal(got, want) {
			t.Error("Floor", got, want)
		}
	}
	floor(2, 1, 7)
	ok(t, r.Floor(2))
	floor(2, 1, 7)
	ok(t, r.Floor(4))
	floor(4, 2, 15)
	has(t, r, write(4, "b"), write(4, "c"))
	ok(t, r.Floor(5))
	floor(5, 4, 15)
	has(t, r, write(4, "c"))
	is(t, r, raft.Info{Term: 6, Voted: 3, Leader: -1, Commit: 5, Members: 15})
	if e := r.Floor(4); e != api.ErrArg {
		t.Error("Floor", e)
	}
}
