package raft_test

import (
	"math"
	"testing"

	"caisson/api"
	"caisson/raft"
)

// P10.3, P1: messages that cannot be do nothing, whoever they come to.
func TestTakeOfWhatCannotBe(t *testing.T) {
	roles := map[int]func() *raft.Raft{
		api.Follower: func() *raft.Raft {
			r := begun(t, 1, 7)
			ticks(t, r, 11)
			return r
		},
		api.Asker:     func() *raft.Raft { r := begun(t, 1, 7); asker(t, r); return r },
		api.Candidate: func() *raft.Raft { r := begun(t, 1, 7); candidate(t, r); return r },
		api.Leader:    func() *raft.Raft { return leaderOf(t, 1, 7) },
	}
	changes := []func(*api.Msg){}
	for _, n := range []int{math.MinInt, -1, 0, 2, 3, 4, 5, math.MaxInt} {
		changes = append(changes, func(m *api.Msg) { m.To = n })
	}
	for _, n := range []int{math.MinInt, -1, 1, 5, math.MaxInt} {
		changes = append(changes, func(m *api.Msg) { m.From = n })
	}
	for _, n := range []int{math.MinInt, -1, 0, 10, 256, math.MaxInt} {
		changes = append(changes, func(m *api.Msg) { m.Kind = n })
	}
	for _, n := range []int64{math.MinInt64, -1, highest + 1, math.MaxInt64} {
		changes = append(changes, func(m *api.Msg) { m.Term = n }, func(m *api.Msg) { m.At = n }, func(m *api.Msg) { m.AtTerm = n }, func(m *api.Msg) { m.Commit = n }, func(m *api.Msg) { m.Round = n })
	}
	for role, make := range roles {
		for kind := api.Ask; kind <= api.Part; kind++ {
			for i, change := range changes {
				r := make()
				before := r.Info()
				m := api.Msg{Kind: kind, From: 2, To: 1, Term: 9, Yes: true, L: []api.Entry{write(9, "x")}}
				change(&m)
				sends(t, r.Take(m))
				is(t, r, before)
				if before.Role != role || len(r.Parts()) != 0 {
					t.Fatal("the change", i, "of the kind", kind, before)
				}
			}
		}
	}
	// A term of 0 is of those that tell alone.
	for _, kind := range []int{api.Ask, api.Vote, api.Beat, api.Add, api.Part} {
		r := begun(t, 1, 7)
		ticks(t, r, 11)
		sends(t, r.Take(api.Msg{Kind: kind, From: 2, To: 1}))
		is(t, r, raft.Info{Voted: -1, Leader: -1, Members: 7})
	}
}

// P10.3: the greatest numbers that can be.
func TestTakeOfTheGreatest(t *testing.T) {
	r := begun(t, 1, 7)
	sends(t, r.Take(api.Msg{Kind: api.Beat, From: 4, To: 1, Term: highest, At: highest, AtTerm: highest, Commit: highest, Round: highest}), api.Msg{Kind: api.BeatTold, From: 1, To: 4, Term: highest, Round: highest, Yes: true})
	is(t, r, raft.Info{Term: highest, Voted: -1, Leader: 4, Members: 7})
	sends(t, r.Take(api.Msg{Kind: api.Part, From: 4, To: 1, Term: highest, At: highest, AtTerm: highest, Commit: highest, Round: highest}))
	if l := r.Parts(); len(l) != 1 || l[0].At != highest {
		t.Error("Parts", l)
	}
}

func ask(from, to int, term, at, atTerm int64) api.Msg {
	return api.Msg{Kind: api.Ask, From: from, To: to, Term: term, At: at, AtTerm: atTerm}
}

func vote(from, to int, term, at, atTerm int64) api.Msg {
	return api.Msg{Kind: api.Vote, From: from, To: to, Term: term, At: at, AtTerm: atTerm}
}

// quietFor is a replica that has heard nobody for so many ticks.
func quietFor(t *testing.T, n int) *raft.Raft {
	r := newRaft(t, 4, 3, -1, newLog(t, 2, 1, 31, writes(2, 2)...), 2)
	ticks(t, r, n)
	return r
}

// P10.3: who would vote, by its term and by its log.
func TestAsk(t *testing.T) {
	for _, c := range []struct {
		term, at, atTerm int64
		yes              bool
	}{
		{4, 4, 2, true}, {9, 4, 2, true}, {highest, 4, 2, true}, {4, 5, 2, true}, {4, 0, 3, true}, {4, 1, 9, true},
		{3, 4, 2, false}, {2, 4, 2, false}, {1, 4, 2, false}, {4, 3, 2, false}, {4, 9, 1, false}, {4, 0, 0, false}, {3, 9, 9, false},
	} {
		r := quietFor(t, 12)
		before := r.Info()
		sends(t, r.Take(ask(0, 4, c.term, c.at, c.atTerm)), api.Msg{Kind: api.AskTold, From: 4, To: 0, Term: 3, Round: c.term, Yes: c.yes})
		is(t, r, before)
		if n, _ := untilItAsks(t, r); n != 6 {
			t.Error("it asks behind", n)
		}
	}
}

// P10.3: a Leader would vote for nobody; an Asker and a Candidate would.
func TestAskByRole(t *testing.T) {
	r := leaderOf(t, 0, 7)
	r.Tick()
	before := r.Info()
	sends(t, r.Take(ask(1, 0, 9, 9, 9)), api.Msg{Kind: api.AskTold, From: 0, To: 1, Term: 1, Round: 9})
	is(t, r, before)
	for _, become := range []func(*testing.T, *raft.Raft) []api.Msg{asker, candidate} {
		r := begun(t, 0, 7)
		become(t, r)
		before := r.Info()
		sends(t, r.Take(ask(3, 0, 9, 0, 0)), api.Msg{Kind: api.AskTold, From: 0, To: 3, Term: before.Term, Round: 9, Yes: true})
		is(t, r, before)
	}
}

// P10.8, P10.3: a replica that began fewer than Least ticks ago votes for nobody, and would not.
func TestVoteOfWhoBeganJustNow(t *testing.T) {
	for n := range 14 {
		r := quietFor(t, n)
		before := r.Info()
		sends(t, r.Take(ask(0, 4, 9, 9, 9)), api.Msg{Kind: api.AskTold, From: 4, To: 0, Term: 3, Round: 9, Yes: n >= raft.Least})
		is(t, r, before)
		l := r.Take(vote(0, 4, 9, 9, 9))
		if n < raft.Least {
			sends(t, l, api.Msg{Kind: api.VoteTold, From: 4, To: 0, Term: 3})
			is(t, r, before)
		} else {
			sends(t, l, api.Msg{Kind: api.VoteTold, From: 4, To: 0, Term: 9, Yes: true})
			is(t, r, raft.Info{Term: 9, Voted: 0, Leader: -1, Commit: 2, Members: 31})
		}
	}
	// Also if it may have voted for just that one before it stopped.
	r := newRaft(t, 4, 3, 0, newLog(t, 0, 0, 31), 0)
	sends(t, r.Take(vote(0, 4, 3, 9, 9)), api.Msg{Kind: api.VoteTold, From: 4, To: 0, Term: 3})
	// And if it would be of a term that is past.
	sends(t, r.Take(vote(0, 4, 1, 9, 9)), api.Msg{Kind: api.VoteTold, From: 4, To: 0, Term: 3})
}

// P10.8: so is one that heard a leader, whatever it heard of it.
func TestVoteOfWhoHeardALeader(t *testing.T) {
	for _, m := range []api.Msg{
		{Kind: api.Beat, From: 1, To: 4, Term: 3}, {Kind: api.Add, From: 1, To: 4, Term: 3, At: 4, AtTerm: 2}, {Kind: api.Add, From: 1, To: 4, Term: 3, At: 99, AtTerm: 2},
		{Kind: api.Part, From: 1, To: 4, Term: 3, At: 99}, {Kind: api.Part, From: 1, To: 4, Term: 3, At: 1}, {Kind: api.Beat, From: 1, To: 4, Term: 3, Round: 7},
	} {
		for n := range 14 {
			r := quietFor(t, 15)
			r.Take(m)
			ticks(t, r, n)
			before := r.Info()
			told := r.Take(ask(0, 4, 9, 9, 9))
			voted := r.Take(vote(0, 4, 9, 9, 9))
			if yes := n >= raft.Least; told[0].Yes != yes || voted[0].Yes != yes || (r.Info() == before) == yes {
				t.Error(n, "ticks behind", m.Kind, told, voted)
			}
		}
	}
	// A leader whose term is past is none.
	r := quietFor(t, 15)
	r.Take(api.Msg{Kind: api.Beat, From: 1, To: 4, Term: 2})
	r.Take(api.Msg{Kind: api.Add, From: 1, To: 4, Term: 2})
	r.Take(api.Msg{Kind: api.Part, From: 1, To: 4, Term: 2, At: 9})
	if l := r.Take(ask(0, 4, 9, 9, 9)); !l[0].Yes {
		t.Error("Ask", l)
	}
}

// P10.3: a vote, by its term, by whom it was given to, and by the log.
func TestVote(t *testing.T) {
	for _, c := range []struct {
		voted            int
		term, at, atTerm int64
		yes              bool
		now              int64 // the term behind it
		then             int   // and the vote
	}{
		{-1, 3, 4, 2, true, 3, 0}, {0, 3, 4, 2, true, 3, 0}, {1, 3, 4, 2, false, 3, 1}, {4, 3, 4, 2, false, 3, 4},
		{-1, 4, 4, 2, true, 4, 0}, {1, 4, 4, 2, true, 4, 0}, {0, 4, 4, 2, true, 4, 0},
		{-1, 2, 4, 2, false, 3, -1}, {0, 2, 4, 2, false, 3, 0},
		{-1, 3, 3, 2, false, 3, -1}, {-1, 3, 9, 1, false, 3, -1}, {-1, 3, 0, 3, true, 3, 0}, {-1, 3, 5, 2, true, 3, 0},
		{1, 7, 3, 2, false, 7, -1}, {1, 7, 9, 1, false, 7, -1}, {1, highest, 0, 3, true, highest, 0},
	} {
		r := newRaft(t, 4, 3, c.voted, newLog(t, 2, 1, 31, writes(2, 2)...), 2)
		ticks(t, r, 12)
		sends(t, r.Take(vote(0, 4, c.term, c.at, c.atTerm)), api.Msg{Kind: api.VoteTold, From: 4, To: 0, Term: c.now, Yes: c.yes})
		is(t, r, raft.Info{Term: c.now, Voted: c.then, Leader: -1, Commit: 2, Members: 31})
		// Who agrees begins to wait anew.
		want := 6
		if c.yes {
			want = 18
		}
		if c.now == highest {
			continue
		}
		if n, _ := untilItAsks(t, r); n != want {
			t.Error(c, "it asks behind", n)
		}
	}
}

// P10.3, P10.6: nobody votes for two in one term, also if it is asked again and again.
func TestOneVoteATerm(t *testing.T) {
	r := quietFor(t, 12)
	for _, c := range []struct {
		from int
		term int64
		yes  bool
	}{{1, 5, true}, {2, 5, false}, {1, 5, true}, {0, 5, false}, {1, 4, false}, {2, 6, true}, {1, 6, false}, {1, 5, false}, {2, 6, true}} {
		if l := r.Take(vote(c.from, 4, c.term, 9, 9)); len(l) != 1 || l[0].Yes != c.yes {
			t.Error("Vote", c, l)
		}
	}
	is(t, r, raft.Info{Term: 6, Voted: 2, Leader: -1, Commit: 2, Members: 31})
}

// P10.3: a Vote that comes to an Asker, a Candidate, a Leader.
func TestVoteByRole(t *testing.T) {
	r := begun(t, 0, 7)
	asker(t, r)
	r.Take(api.Msg{Kind: api.VoteTold, From: 1, To: 0, Term: 2}) // its term is 2
	asker(t, r)
	sends(t, r.Take(vote(1, 0, 2, 0, 0)), api.Msg{Kind: api.VoteTold, From: 0, To: 1, Term: 2, Yes: true})
	is(t, r, raft.Info{Term: 2, Voted: 1, Role: api.Asker, Leader: -1, Members: 7})
	r = begun(t, 0, 7)
	candidate(t, r)
	sends(t, r.Take(vote(1, 0, 1, 9, 9)), api.Msg{Kind: api.VoteTold, From: 0, To: 1, Term: 1})
	is(t, r, raft.Info{Term: 1, Role: api.Candidate, Leader: -1, Members: 7})
	sends(t, r.Take(vote(1, 0, 2, 0, 0)), api.Msg{Kind: api.VoteTold, From: 0, To: 1, Term: 2, Yes: true})
	is(t, r, raft.Info{Term: 2, Voted: 1, Leader: -1, Members: 7})
	r = leaderOf(t, 0, 7)
	sends(t, r.Take(vote(1, 0, 1, 9, 9)), api.Msg{Kind: api.VoteTold, From: 0, To: 1, Term: 1})
	is(t, r, raft.Info{Term: 1, Role: api.Leader, Members: 7})
	sends(t, r.Take(vote(1, 0, 2, 0, 0)), api.Msg{Kind: api.VoteTold, From: 0, To: 1, Term: 2})
	is(t, r, raft.Info{Term: 2, Voted: -1, Leader: -1, Members: 7})
	r = leaderOf(t, 0, 7)
	sends(t, r.Take(vote(2, 0, 3, 1, 1)), api.Msg{Kind: api.VoteTold, From: 0, To: 2, Term: 3, Yes: true})
	is(t, r, raft.Info{Term: 3, Voted: 2, Leader: -1, Members: 7})
}

// P10.3: who is told of a higher term bows to it, and that is all.
func TestToldOfAHigherTerm(t *testing.T) {
	for _, kind := range []int{api.AskTold, api.VoteTold, api.BeatTold, api.AddTold} {
		for role, become := range []func(*testing.T, *raft.Raft) []api.Msg{nil, asker, candidate, lead} {
			for _, yes := range []bool{false, true} {
				r := begun(t, 0, 7)
				if become != nil {
					become(t, r)
				}
				for range 3 {
					r.Tick()
				}
				term := r.Info().Term
				sends(t, r.Take(api.Msg{Kind: kind, From: 1, To: 0, Term: term + 1, Round: term + 1, At: 1, Yes: yes}))
				is(t, r, raft.Info{Term: term + 1, Voted: -1, Leader: -1, Members: 7})
				// It waits on as it did; who leads does not wait.
				want := 7
				if role == api.Leader {
					want = 10
				}
				if n, _ := untilItAsks(t, r); n != want {
					t.Error("the role", role, "it asks behind", n)
				}
			}
		}
	}
}

// P10.3: an Asker runs, as soon as a majority of the members would vote for it.
func TestAskTold(t *testing.T) {
	r := begun(t, 1, 31)
	asker(t, r)
	no := askTold(0, 1, 0, 1)
	no.Yes = false
	for _, m := range []api.Msg{no, askTold(0, 1, 0, 0), askTold(0, 1, 0, 2), askTold(2, 1, 0, 1), askTold(2, 1, 0, 1), {Kind: api.VoteTold, From: 3, To: 1, Yes: true, Round: 1}, {Kind: api.BeatTold, From: 3, To: 1, Yes: true, Round: 1}, {Kind: api.AddTold, From: 4, To: 1, Yes: true, Round: 1}} {
		sends(t, r.Take(m))
		is(t, r, raft.Info{Voted: -1, Role: api.Asker, Leader: -1, Members: 31})
	}
	var want []api.Msg
	for _, to := range []int{0, 2, 3, 4} {
		want = append(want, vote(1, to, 1, 0, 0))
	}
	ticks(t, r, 4)
	sends(t, r.Take(askTold(0, 1, 0, 1)), want...)
	is(t, r, raft.Info{Term: 1, Voted: 1, Role: api.Candidate, Leader: -1, Members: 31})
	// It begins to wait anew, with the timeout that it took when it asked.
	if n, _ := untilItAsks(t, r); n != 12 {
		t.Error("it asks behind", n)
	}
	is(t, r, raft.Info{Term: 1, Voted: 1, Role: api.Asker, Leader: -1, Members: 31})
	// What would have been is no more.
	sends(t, r.Take(askTold(0, 1, 1, 1)))
	sends(t, r.Take(askTold(3, 1, 1, 1)))
	sends(t, r.Take(askTold(3, 1, 0, 2)))
	if l := r.Take(askTold(4, 1, 1, 2)); len(l) != 4 || l[0].Kind != api.Vote || l[0].Term != 2 {
		t.Error("Take", l)
	}
}

// P10.3: who would vote for one asking, would not for the next one.
func TestAskToldOfAnElderAsking(t *testing.T) {
	r := begun(t, 0, 31)
	asker(t, r)
	sends(t, r.Take(askTold(1, 0, 0, 1)))
	asker(t, r)
	sends(t, r.Take(askTold(2, 0, 0, 1)))
	is(t, r, raft.Info{Voted: -1, Role: api.Asker, Leader: -1, Members: 31})
	if l := r.Take(askTold(3, 0, 0, 1)); len(l) != 4 {
		t.Error("Take", l)
	}
}

// P10.3: who is no Asker does not run, whoever would vote for it.
func TestAskToldByRole(t *testing.T) {
	r := begun(t, 0, 7)
	sends(t, r.Take(askTold(1, 0, 0, 1)))
	is(t, r, raft.Info{Voted: -1, Leader: -1, Members: 7})
	candidate(t, r)
	sends(t, r.Take(askTold(1, 0, 0, 2)))
	is(t, r, raft.Info{Term: 1, Role: api.Candidate, Leader: -1, Members: 7})
	r = leaderOf(t, 0, 7)
	sends(t, r.Take(askTold(1, 0, 1, 2)))
	is(t, r, raft.Info{Term: 1, Role: api.Leader, Members: 7})
}

// P10.3: only members count, of an asking and of votes.
func TestMembersAloneCount(t *testing.T) {
	r := begun(t, 0, 7)
	asker(t, r)
	sends(t, r.Take(askTold(3, 0, 0, 1)))
	sends(t, r.Take(askTold(4, 0, 0, 1)))
	if l := r.Take(askTold(2, 0, 0, 1)); len(l) != 2 {
		t.Error("Take", l)
	}
	sends(t, r.Take(voteTold(3, 0, 1)))
	sends(t, r.Take(voteTold(4, 0, 1)))
	is(t, r, raft.Info{Term: 1, Role: api.Candidate, Leader: -1, Members: 7})
	if l := r.Take(voteTold(1, 0, 1)); len(l) != 4 {
		t.Error("Take", l)
	}
	// Half of them are no majority.
	r = begun(t, 0, 15)
	asker(t, r)
	sends(t, r.Take(askTold(1, 0, 0, 1)))
	if l := r.Take(askTold(3, 0, 0, 1)); len(l) != 3 {
		t.Error("Take", l)
	}
	sends(t, r.Take(voteTold(2, 0, 1)))
	if l := r.Take(voteTold(3, 0, 1)); len(l) != 6 {
		t.Error("Take", l)
	}
}

// P10.3: a Candidate leads, as soon as a majority voted for it: it adds a Noop, and tells all others.
func TestVoteTold(t *testing.T) {
	r := newRaft(t, 2, 4, 0, newLog(t, 5, 2, 31, writes(2, 3)...), 6)
	candidate(t, r)
	no := voteTold(0, 2, 5)
	no.Yes = false
	for _, m := range []api.Msg{no, voteTold(0, 2, 4), voteTold(0, 2, 0), voteTold(1, 2, 5), voteTold(1, 2, 5), askTold(3, 2, 5, 5), {Kind: api.BeatTold, From: 3, To: 2, Term: 5, Yes: true}, {Kind: api.AddTold, From: 3, To: 2, Term: 5, Yes: true}} {
		sends(t, r.Take(m))
		is(t, r, raft.Info{Term: 5, Voted: 2, Role: api.Candidate, Leader: -1, Commit: 6, Members: 31})
	}
	var want []api.Msg
	for _, to := range []int{0, 1, 3, 4} {
		want = append(want, api.Msg{Kind: api.Beat, From: 2, To: to, Term: 5, Round: 1}, api.Msg{Kind: api.Add, From: 2, To: to, Term: 5, At: 7, AtTerm: 3, L: []api.Entry{noop(5)}, Commit: 6})
	}
	sends(t, r.Take(voteTold(4, 2, 5)), want...)
	is(t, r, raft.Info{Term: 5, Voted: 2, Role: api.Leader, Leader: 2, Commit: 6, Members: 31})
	has(t, r, append(writes(2, 3), noop(5))...)
	sends(t, r.Take(voteTold(0, 2, 5)))
	// Who does not run does not lead.
	r = begun(t, 0, 7)
	sends(t, r.Take(voteTold(1, 0, 0)))
	asker(t, r)
	sends(t, r.Take(voteTold(1, 0, 0)))
	is(t, r, raft.Info{Voted: -1, Role: api.Asker, Leader: -1, Members: 7})
}

// P10.3: votes are of one term alone.
func TestVoteToldOfAnElderTerm(t *testing.T) {
	r := begun(t, 0, 31)
	candidate(t, r)
	sends(t, r.Take(voteTold(1, 0, 1)))
	candidate(t, r)
	sends(t, r.Take(voteTold(2, 0, 2)))
	is(t, r, raft.Info{Term: 2, Role: api.Candidate, Leader: -1, Members: 31})
	if l := r.Take(voteTold(3, 0, 2)); len(l) != 8 {
		t.Error("Take", l)
	}
}

// P10.3: a full log takes no Noop; who leads says so all the same.
func TestLeadWithAFullLog(t *testing.T) {
	l := writes(1)
	for len(l) < api.MaxLog {
		l = append(l, l[0])
	}
	r := newRaft(t, 0, 1, -1, newLog(t, 0, 0, 3, l...), 0)
	sends(t, lead(t, r), api.Msg{Kind: api.Beat, From: 0, To: 1, Term: 2, Round: 1}, api.Msg{Kind: api.Add, From: 0, To: 1, Term: 2, At: api.MaxLog, AtTerm: 1})
	is(t, r, raft.Info{Term: 2, Role: api.Leader, Members: 3})
	if top, _ := r.Log().Top(); top != api.MaxLog {
		t.Error("Top", top)
	}
	// Nothing of its term: nothing is agreed on.
	sends(t, r.Take(addTold(1, 0, 2, api.MaxLog)))
	is(t, r, raft.Info{Term: 2, Role: api.Leader, Members: 3})
}
