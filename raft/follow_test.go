package raft_test

import (
	"testing"

	"caisson/api"
	"caisson/raft"
)

// P10.3: a leader whose term is past is told of the one that is; of a part it is told nothing.
func TestOfATermThatIsPast(t *testing.T) {
	for _, become := range []func(*testing.T, *raft.Raft) []api.Msg{nil, asker, candidate, lead} {
		r := newRaft(t, 0, 4, 1, newLog(t, 0, 0, 7, writes(1, 1)...), 0)
		if become != nil {
			become(t, r)
		}
		before := r.Info()
		sends(t, r.Take(api.Msg{Kind: api.Beat, From: 2, To: 0, Term: 3, Commit: 2, Round: 8}), api.Msg{Kind: api.BeatTold, From: 0, To: 2, Term: before.Term, Round: 8})
		sends(t, r.Take(api.Msg{Kind: api.Add, From: 2, To: 0, Term: 3, At: 2, AtTerm: 1, L: writes(3), Commit: 2, Round: 6}), api.Msg{Kind: api.AddTold, From: 0, To: 2, Term: before.Term, Round: 6})
		sends(t, r.Take(api.Msg{Kind: api.Part, From: 2, To: 0, Term: 3, At: 9}))
		is(t, r, before)
		if len(r.Parts()) != 0 {
			t.Error("Parts")
		}
	}
}

// P10.3: a Leader of the same term does nothing; of a higher one it follows.
func TestOfAnotherLeader(t *testing.T) {
	for _, kind := range []int{api.Beat, api.Add, api.Part} {
		r := leaderOf(t, 0, 7)
		before := r.Info()
		sends(t, r.Take(api.Msg{Kind: kind, From: 2, To: 0, Term: 1, At: 1, AtTerm: 1, Commit: 1}))
		is(t, r, before)
		if len(r.Parts()) != 0 {
			t.Error("Parts")
		}
		r.Take(api.Msg{Kind: kind, From: 2, To: 0, Term: 2, At: 9, AtTerm: 1})
		is(t, r, raft.Info{Term: 2, Voted: -1, Leader: 2, Members: 7})
	}
}

// P10.3: who hears a leader of its term follows it, and its vote stays; it waits anew.
func TestFollows(t *testing.T) {
	for _, kind := range []int{api.Beat, api.Add, api.Part} {
		for _, become := range []func(*testing.T, *raft.Raft) []api.Msg{nil, asker, candidate} {
			r := newRaft(t, 1, 4, 1, newLog(t, 0, 0, 7), 0)
			if become != nil {
				become(t, r)
			}
			ticks(t, r, 5)
			term := r.Info().Term
			r.Take(api.Msg{Kind: kind, From: 3, To: 1, Term: term})
			is(t, r, raft.Info{Term: term, Voted: 1, Leader: 3, Members: 7})
			ticks(t, r, 4)
			r.Take(api.Msg{Kind: kind, From: 2, To: 1, Term: term + 1})
			is(t, r, raft.Info{Term: term + 1, Voted: -1, Leader: 2, Members: 7})
			if n, _ := untilItAsks(t, r); n != 12 {
				t.Error("it asks behind", n)
			}
			is(t, r, raft.Info{Term: term + 1, Voted: -1, Role: api.Asker, Leader: -1, Members: 7})
		}
	}
}

// P10.3, P10.7: a Beat says up to where is agreed, within the log; commit does not fall.
func TestBeat(t *testing.T) {
	r := newRaft(t, 1, 4, 1, newLog(t, 2, 1, 7, writes(1, 1, 1)...), 2)
	for _, c := range []struct{ says, commit int64 }{{0, 2}, {3, 3}, {2, 3}, {4, 4}, {9, 5}, {highest, 5}, {0, 5}} {
		sends(t, r.Take(api.Msg{Kind: api.Beat, From: 3, To: 1, Term: 4, At: 1, AtTerm: 3, Commit: c.says, Round: 7}), api.Msg{Kind: api.BeatTold, From: 1, To: 3, Term: 4, Round: 7, Yes: true})
		is(t, r, raft.Info{Term: 4, Voted: 1, Leader: 3, Commit: c.commit, Members: 7})
		has(t, r, writes(1, 1, 1)...)
	}
}

// P10.3: entries that are added, passed over, put in the place of others, or refused.
func TestAdd(t *testing.T) {
	for _, c := range []struct {
		name       string
		at, atTerm int64
		l          []api.Entry
		says       int64
		yes        bool
		told       int64
		commit     int64
		have       []int64
	}{
		{"none", 6, 4, nil, 0, true, 6, 4, []int64{2, 2, 4, 4}},
		{"none, agreed", 5, 4, nil, 9, true, 5, 5, []int64{2, 2, 4, 4}},
		{"one more", 6, 4, writes(5), 0, true, 7, 4, []int64{2, 2, 4, 4, 5}},
		{"one more, agreed", 6, 4, writes(5), 7, true, 7, 7, []int64{2, 2, 4, 4, 5}},
		{"one more, agreed in part", 6, 4, writes(5), 6, true, 7, 6, []int64{2, 2, 4, 4, 5}},
		{"one more, agreed beyond", 6, 4, writes(5), 99, true, 7, 7, []int64{2, 2, 4, 4, 5}},
		{"those that are there", 3, 2, writes(2, 4), 9, true, 5, 5, []int64{2, 2, 4, 4}},
		{"in the place of one", 5, 4, writes(5, 6), 0, true, 7, 4, []int64{2, 2, 4, 5, 6}},
		{"in the place of two", 4, 2, writes(5), 5, true, 5, 5, []int64{2, 2, 5}},
		{"below the floor", 1, 1, writes(1, 2, 2, 4, 4, 6), 0, true, 7, 4, []int64{2, 2, 4, 4, 6}},
		{"all below the floor", 0, 0, writes(1, 1), 9, false, 2, 4, []int64{2, 2, 4, 4}},
		{"of the term itself", 6, 4, writes(6), 0, true, 7, 4, []int64{2, 2, 4, 4, 6}},
		{"of a term above", 6, 4, writes(5, 7), 99, false, 4, 4, []int64{2, 2, 4, 4}},
		{"of a term above, below the floor", 1, 1, writes(7, 2, 2), 99, false, 4, 4, []int64{2, 2, 4, 4}},
		{"of a term above, and nowhere", 99, 4, writes(7), 99, false, 4, 4, []int64{2, 2, 4, 4}},
		{"above the top", 7, 4, writes(5), 99, false, 6, 4, []int64{2, 2, 4, 4}},
		{"of another term", 6, 5, writes(5), 99, false, 4, 4, []int64{2, 2, 4, 4}},
		{"of another term, further down", 4, 1, nil, 99, false, 2, 4, []int64{2, 2, 4, 4}},
		{"in the place of what is agreed", 2, 1, writes(2, 3), 99, false, 4, 4, []int64{2, 2, 4, 4}},
		{"in the place of the last that is agreed", 3, 2, writes(3), 99, false, 4, 4, []int64{2, 2, 4, 4}},
		{"a term that falls", 6, 4, writes(5, 4), 99, false, 6, 4, []int64{2, 2, 4, 4}},
		{"that cannot be", 5, 4, []api.Entry{write(4, "x"), {Kind: 9, Term: 5}}, 99, false, 6, 4, []int64{2, 2, 4, 4}},
	} {
		r := newRaft(t, 1, 6, 3, newLog(t, 2, 1, 7, writes(2, 2, 4, 4)...), 4)
		m := api.Msg{Kind: api.Add, From: 3, To: 1, Term: 6, At: c.at, AtTerm: c.atTerm, L: c.l, Commit: c.says, Round: 5}
		l := r.Take(m)
		if len(l) != 1 || !sameMsg(l[0], api.Msg{Kind: api.AddTold, From: 1, To: 3, Term: 6, At: c.told, Round: 5, Yes: c.yes}) {
			t.Errorf("%s: told %+v", c.name, l)
			continue
		}
		is(t, r, raft.Info{Term: 6, Voted: 3, Leader: 3, Commit: c.commit, Members: 7})
		has(t, r, writes(c.have...)...)
		// It comes twice.
		if again := r.Take(m); c.yes && !sameMsg(again[0], l[0]) {
			t.Errorf("%s: told again %+v", c.name, again)
		}
		has(t, r, writes(c.have...)...)
	}
}

// P10.3: the first place of all is kept, too, once it is agreed on.
func TestAddInThePlaceOfTheFirst(t *testing.T) {
	for commit := range int64(2) {
		r := newRaft(t, 1, 6, 3, newLog(t, 0, 0, 7, writes(2)...), commit)
		l := r.Take(api.Msg{Kind: api.Add, From: 3, To: 1, Term: 6, L: writes(5)})
		sends(t, l, api.Msg{Kind: api.AddTold, From: 1, To: 3, Term: 6, At: 1, Yes: commit == 0})
		if commit == 1 {
			has(t, r, writes(2)...)
		} else {
			has(t, r, writes(5)...)
		}
	}
}

// P10.3: what is joined is of the message's place, and its commands are those that came; what was handed in is not kept.
func TestAddKeepsNothing(t *testing.T) {
	r := begun(t, 1, 7)
	l := []api.Entry{write(1, "abc"), config(1, 15)}
	r.Take(api.Msg{Kind: api.Add, From: 3, To: 1, Term: 1, L: l})
	if string(l[0].Cmd) != "abc" || l[1].Cmd[0] != 15 {
		t.Error("the message has changed", l)
	}
	clear(l[0].Cmd)
	l[1] = api.Entry{}
	has(t, r, write(1, "abc"), config(1, 15))
	is(t, r, raft.Info{Term: 1, Voted: -1, Leader: 3, Members: 15})
}

// P10.3: a change of members that another leader cuts away is no change any more.
func TestAChangeIsCutAway(t *testing.T) {
	r := agreedLeader(t, 0, 7)
	_, l, e := r.Offer(api.Config, []byte{15})
	ok(t, e)
	if len(l) != 3 {
		t.Error("Offer", l)
	}
	is(t, r, raft.Info{Term: 1, Role: api.Leader, Commit: 1, Members: 15})
	// The others have chosen the machine 1, whose Noop stands in its place.
	sends(t, r.Take(api.Msg{Kind: api.Add, From: 1, To: 0, Term: 2, At: 1, AtTerm: 1, L: []api.Entry{noop(2)}, Commit: 1}), api.Msg{Kind: api.AddTold, From: 0, To: 1, Term: 2, At: 2, Yes: true})
	is(t, r, raft.Info{Term: 2, Voted: -1, Leader: 1, Commit: 1, Members: 7})
	has(t, r, noop(1), noop(2))
	if n := r.Log().Change(); n != 0 {
		t.Error("Change", n)
	}
	// It asks those that are members now, and a majority of these is enough.
	if l := asker(t, r); len(l) != 2 {
		t.Error("Tick", l)
	}
	if l := r.Take(askTold(2, 0, 2, 3)); len(l) != 2 {
		t.Error("Take", l)
	}
	// A machine that was a member by that change alone is none any more, and asks nobody.
	r = begun(t, 3, 7)
	r.Take(api.Msg{Kind: api.Add, From: 0, To: 3, Term: 1, L: []api.Entry{noop(1), config(1, 15)}})
	is(t, r, raft.Info{Term: 1, Voted: -1, Leader: 0, Members: 15})
	r.Take(api.Msg{Kind: api.Add, From: 1, To: 3, Term: 2, At: 1, AtTerm: 1, L: []api.Entry{noop(2)}})
	is(t, r, raft.Info{Term: 2, Voted: -1, Leader: 1, Members: 7})
	ticks(t, r, 60)
}

// P10.3: parts wait, at most 256, as they came; those of what is agreed on already do not.
func TestPartsWait(t *testing.T) {
	r := newRaft(t, 1, 4, 1, newLog(t, 2, 1, 7, writes(1, 1, 1)...), 3)
	for _, at := range []int64{0, 2, 3} {
		sends(t, r.Take(api.Msg{Kind: api.Part, From: 3, To: 1, Term: 4, At: at, AtTerm: 1, Commit: 7, Round: 5}), api.Msg{Kind: api.AddTold, From: 1, To: 3, Term: 4, At: 3, Yes: true})
	}
	sends(t, r.Parts())
	part := func(i int) api.Msg {
		return api.Msg{Kind: api.Part, From: i % 2 * 3, To: 1, Term: 4, At: int64(4 + i), AtTerm: 3, Commit: 7, Round: 9, Yes: true, Data: []byte{byte(i), 7}, L: []api.Entry{write(1, "x")}}
	}
	var want []api.Msg
	for i := range raft.Wait + 3 {
		m := part(i)
		sends(t, r.Take(m))
		clear(m.Data)
		clear(m.L[0].Cmd)
		m.L[0] = api.Entry{}
		if i < raft.Wait {
			want = append(want, part(i))
		}
	}
	is(t, r, raft.Info{Term: 4, Voted: 1, Leader: 0, Commit: 3, Members: 7})
	l := r.Parts()
	sends(t, l, want...)
	sends(t, r.Parts())
	sends(t, r.Take(part(0)))
	_ = append(l[:0], api.Msg{})
	sends(t, r.Parts(), part(0))
	has(t, r, writes(1, 1, 1)...)
}

// P10.3: parts wait on, whatever role it has.
func TestPartsWaitOn(t *testing.T) {
	r := begun(t, 0, 7)
	m := api.Msg{Kind: api.Part, From: 2, To: 0, Term: 3, At: 5}
	sends(t, r.Take(m))
	lead(t, r)
	sends(t, r.Parts(), m)
}
