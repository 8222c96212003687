package raft_test

import (
	"slices"
	"testing"

	"caisson/api"
	"caisson/raft"
)

// P10.3: BeatTold counts of a Leader, if it is Yes, and of its term.
func TestBeatTold(t *testing.T) {
	r := leaderOf(t, 0, 3)
	no := beatTold(1, 0, 1, 1)
	no.Yes = false
	for _, m := range []api.Msg{no, beatTold(1, 0, 0, 1), beatTold(1, 0, 1, 2), {Kind: api.VoteTold, From: 1, To: 0, Term: 1, Round: 1, Yes: true}, {Kind: api.AskTold, From: 1, To: 0, Term: 1, Round: 1, Yes: true}} {
		sends(t, r.Take(m))
		is(t, r, raft.Info{Term: 1, Role: api.Leader, Members: 3})
	}
	sends(t, r.Take(beatTold(1, 0, 1, 1)))
	is(t, r, raft.Info{Term: 1, Role: api.Leader, Members: 3, Sure: 1})
}

// P10.3: what a majority has, of the leader's term, is agreed on, and what is elder with it.
func TestAddTold(t *testing.T) {
	r := newRaft(t, 0, 2, -1, newLog(t, 0, 0, 31, writes(1, 2)...), 0)
	lead(t, r)
	for _, c := range []struct {
		m      api.Msg
		commit int64
	}{
		{addTold(1, 0, 3, 2), 0}, {addTold(2, 0, 3, 2), 0}, {addTold(3, 0, 3, 2), 0}, {addTold(4, 0, 3, 1), 0},
		{addTold(1, 0, 3, 3), 0}, {addTold(1, 0, 3, 3), 0}, {addTold(2, 0, 2, 3), 0}, {addTold(2, 0, 0, 3), 0}, {addTold(2, 0, 3, 4), 0}, {addTold(2, 0, 3, highest), 0},
		{addTold(2, 0, 3, 3), 3}, {addTold(2, 0, 3, 0), 3}, {addTold(4, 0, 3, 3), 3},
	} {
		r.Take(c.m)
		is(t, r, raft.Info{Term: 3, Role: api.Leader, Commit: c.commit, Members: 31})
	}
}

// P10.3: who has told how far it is gets the next entries, at most sixteen.
func TestAddToldSendsMore(t *testing.T) {
	r := agreedLeader(t, 0, 7)
	all := []api.Entry{noop(1)}
	for i := range 40 {
		x := write(1, string(rune('A'+i)))
		all = append(all, x)
		_, _, e := r.Offer(api.Write, x.Cmd)
		ok(t, e)
	}
	add := func(to int, at int64, n int, commit int64) api.Msg {
		return api.Msg{Kind: api.Add, From: 0, To: to, Term: 1, At: at, AtTerm: 1, L: all[at : int(at)+n], Commit: commit}
	}
	sends(t, r.Take(addTold(1, 0, 1, 17)), add(1, 17, 16, 17))
	sends(t, r.Take(addTold(1, 0, 1, 17)), add(1, 17, 16, 17))
	sends(t, r.Take(addTold(2, 0, 1, 2)), add(2, 2, 16, 17))
	sends(t, r.Take(addTold(1, 0, 1, 33)), add(1, 33, 8, 33))
	sends(t, r.Take(addTold(1, 0, 1, 5)), add(1, 33, 8, 33)) // it has told more before
	sends(t, r.Take(addTold(1, 0, 1, 40)), add(1, 40, 1, 40))
	sends(t, r.Take(addTold(1, 0, 1, 41)))
	sends(t, r.Take(addTold(1, 0, 1, 42)))
	is(t, r, raft.Info{Term: 1, Role: api.Leader, Commit: 41, Members: 7})
	sends(t, r.Tick(), api.Msg{Kind: api.Beat, From: 0, To: 1, Term: 1, Commit: 41, Round: 2}, api.Msg{Kind: api.Beat, From: 0, To: 2, Term: 1, Commit: 2, Round: 2}, add(2, 2, 16, 41))
	// Who told nothing yet gets no place of the floor's.
	ok(t, r.Floor(10))
	sends(t, r.Take(addTold(2, 0, 1, 9)))
	sends(t, r.Take(addTold(2, 0, 1, 10)), api.Msg{Kind: api.Add, From: 0, To: 2, Term: 1, At: 10, AtTerm: 1, L: all[10:26], Commit: 41})
}

// P10.3: who tells that it has no such place is asked further back.
func TestAddToldNotYes(t *testing.T) {
	not := func(at int64) api.Msg {
		return api.Msg{Kind: api.AddTold, From: 1, To: 0, Term: 7, At: at}
	}
	for _, c := range []struct{ at, next int64 }{{0, 1}, {2, 3}, {4, 5}, {5, 6}, {6, 6}, {7, 6}, {highest, 6}} {
		// Its Noop is at the place 7, which is next.
		r := newRaft(t, 0, 6, -1, newLog(t, 0, 0, 7, writes(1, 1, 2, 3, 5, 6)...), 0)
		lead(t, r)
		all := entriesOf(r.Log())
		sends(t, r.Take(not(c.at)), api.Msg{Kind: api.Add, From: 0, To: 1, Term: 7, At: c.next - 1, AtTerm: r.Log().Term(c.next - 1), L: all[c.next-1:]})
	}
}

// P10.3: next goes back by at least one each time, and never to what is known to be the same.
func TestAddToldNotYesStepByStep(t *testing.T) {
	r := newRaft(t, 0, 6, -1, newLog(t, 0, 0, 7, writes(1, 1, 2, 3, 5, 6)...), 0)
	lead(t, r)
	not := func(from int, term, at int64) api.Msg {
		return api.Msg{Kind: api.AddTold, From: from, To: 0, Term: term, At: at}
	}
	next := func(m api.Msg, want int64) {
		t.Helper()
		l := r.Take(m)
		if len(l) != 1 || l[0].Kind != api.Add || l[0].To != m.From || l[0].At != want-1 || len(l[0].L) != int(8-want) {
			t.Fatal("next is not", want, l)
		}
	}
	for n := int64(6); n >= 1; n-- {
		next(not(1, 7, 100), n)
	}
	next(not(1, 7, 100), 1)
	next(not(1, 7, 0), 1)
	next(addTold(1, 0, 7, 3), 4)
	next(not(1, 7, 0), 4)
	next(not(1, 7, 100), 4)
	next(not(2, 7, 4), 5)
	next(not(2, 7, 4), 4)
	next(not(2, 7, 1), 2)
	// Of another term it is nothing.
	sends(t, r.Take(not(2, 6, 0)))
	next(not(2, 7, 1), 1)
	// Who is no member gets nothing; what it tells is known all the same.
	sends(t, r.Take(not(4, 7, 2)))
	sends(t, r.Take(addTold(3, 0, 7, 3)))
	r.Take(addTold(1, 0, 7, 7))
	is(t, r, raft.Info{Term: 7, Role: api.Leader, Commit: 7, Members: 7})
	at, l, e := r.Offer(api.Config, []byte{15})
	ok(t, e)
	if at != 8 || len(l) != 3 || l[2].To != 3 || l[2].At != 3 || len(l[2].L) != 5 {
		t.Error("Offer", at, l)
	}
}

// P10.3: who needs an image is sent no entries.
func TestAddToldBelowTheFloor(t *testing.T) {
	r := agreedLeader(t, 0, 7)
	for range 5 {
		_, _, e := r.Offer(api.Write, nil)
		ok(t, e)
	}
	r.Take(addTold(1, 0, 1, 6))
	ok(t, r.Floor(4))
	sends(t, r.Take(api.Msg{Kind: api.AddTold, From: 2, To: 0, Term: 1, At: 1}))
	if l := r.Lacking(); !slices.Equal(l, []int{2}) {
		t.Error("Lacking", l)
	}
}

// P10.3: of who is no Leader, AddTold and BeatTold of its term or below are nothing.
func TestToldToWhoDoesNotLead(t *testing.T) {
	for _, become := range []func(*testing.T, *raft.Raft) []api.Msg{nil, asker, candidate} {
		r := newRaft(t, 0, 4, 1, newLog(t, 0, 0, 7, writes(1, 1)...), 0)
		if become != nil {
			become(t, r)
		}
		before := r.Info()
		for _, m := range []api.Msg{addTold(1, 0, before.Term, 2), addTold(2, 0, before.Term, 2), {Kind: api.AddTold, From: 1, To: 0, Term: before.Term}, beatTold(1, 0, before.Term, 1), beatTold(2, 0, 1, 1)} {
			sends(t, r.Take(m))
			is(t, r, before)
		}
	}
}
