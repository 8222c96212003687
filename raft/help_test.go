package raft_test

import (
	"bytes"
	"slices"
	"testing"

	"caisson/api"
	"caisson/entries"
	"caisson/raft"
)

const highest = int64(1) << 40

func write(term int64, cmd string) api.Entry {
	return api.Entry{Kind: api.Write, Term: term, Cmd: []byte(cmd)}
}

func config(term int64, members byte) api.Entry {
	return api.Entry{Kind: api.Config, Term: term, Cmd: []byte{members}}
}

func noop(term int64) api.Entry { return api.Entry{Kind: api.Noop, Term: term} }

// writes are entries of these terms.
func writes(terms ...int64) []api.Entry {
	var l []api.Entry
	for _, n := range terms {
		l = append(l, write(n, "w"))
	}
	return l
}

func sameEntry(a, b api.Entry) bool {
	return a.Kind == b.Kind && a.Term == b.Term && bytes.Equal(a.Cmd, b.Cmd)
}

func sameMsg(a, b api.Msg) bool {
	return a.Kind == b.Kind && a.From == b.From && a.To == b.To && a.Term == b.Term && a.At == b.At && a.AtTerm == b.AtTerm &&
		a.Commit == b.Commit && a.Round == b.Round && a.Yes == b.Yes && slices.EqualFunc(a.L, b.L, sameEntry) && bytes.Equal(a.Data, b.Data)
}

func ok(t *testing.T, e api.Errno) {
	t.Helper()
	if e != api.OK {
		t.Fatal("an error:", e)
	}
}

func newLog(t *testing.T, at, term int64, members int, l ...api.Entry) *entries.Log {
	t.Helper()
	g, e := entries.New(at, term, members)
	ok(t, e)
	g, e = g.With(l...)
	ok(t, e)
	return g
}

func entriesOf(g *entries.Log) []api.Entry {
	at, _, _ := g.Floor()
	return g.Slice(at+1, api.MaxLog)
}

func newRaft(t *testing.T, me int, term int64, voted int, g *entries.Log, commit int64) *raft.Raft {
	t.Helper()
	r, e := raft.New(me, term, voted, g, commit)
	ok(t, e)
	return r
}

// begun is a replica of these members that has nothing yet.
func begun(t *testing.T, me, members int) *raft.Raft {
	t.Helper()
	return newRaft(t, me, 0, -1, newLog(t, 0, 0, members), 0)
}

// sends holds messages against those that are to be sent, in order.
func sends(t *testing.T, l []api.Msg, want ...api.Msg) {
	t.Helper()
	if !slices.EqualFunc(l, want, sameMsg) {
		t.Fatalf("sent\n%+v, not\n%+v", l, want)
	}
}

// is holds how a replica is against how it is to be.
func is(t *testing.T, r *raft.Raft, want raft.Info) {
	t.Helper()
	if i := r.Info(); i != want {
		t.Fatalf("it is %+v, not %+v", i, want)
	}
}

// has holds the entries of a replica's log, above its floor, against those that are to be there.
func has(t *testing.T, r *raft.Raft, want ...api.Entry) {
	t.Helper()
	if l := entriesOf(r.Log()); !slices.EqualFunc(l, want, sameEntry) {
		t.Fatalf("its log has %v, not %v", l, want)
	}
}

// ticks lets the clock go on n times; nothing may be sent meanwhile.
func ticks(t *testing.T, r *raft.Raft, n int) {
	t.Helper()
	for range n {
		sends(t, r.Tick())
	}
}

// untilItAsks is how many ticks go by till it asks, and what it sends then.
func untilItAsks(t *testing.T, r *raft.Raft) (int, []api.Msg) {
	t.Helper()
	for n := range 100 {
		if l := r.Tick(); len(l) > 0 {
			return n + 1, l
		}
	}
	t.Fatal("it never asks")
	return 0, nil
}

func askTold(from, to int, term, round int64) api.Msg {
	return api.Msg{Kind: api.AskTold, From: from, To: to, Term: term, Round: round, Yes: true}
}

func voteTold(from, to int, term int64) api.Msg {
	return api.Msg{Kind: api.VoteTold, From: from, To: to, Term: term, Yes: true}
}

func addTold(from, to int, term, at int64) api.Msg {
	return api.Msg{Kind: api.AddTold, From: from, To: to, Term: term, At: at, Yes: true}
}

func beatTold(from, to int, term, round int64) api.Msg {
	return api.Msg{Kind: api.BeatTold, From: from, To: to, Term: term, Round: round, Yes: true}
}

func othersOf(me, members int) []int {
	var l []int
	for i := range api.MaxNodes {
		if i != me && members>>i&1 == 1 {
			l = append(l, i)
		}
	}
	return l
}

// asker lets it ask; it must have others.
func asker(t *testing.T, r *raft.Raft) []api.Msg {
	t.Helper()
	_, l := untilItAsks(t, r)
	if r.Info().Role != api.Asker {
		t.Fatal("it does not ask", r.Info())
	}
	return l
}

// candidate lets it ask, and all others would vote for it.
func candidate(t *testing.T, r *raft.Raft) []api.Msg {
	t.Helper()
	for _, m := range asker(t, r) {
		if l := r.Take(askTold(m.To, m.From, 0, m.Term)); len(l) > 0 {
			return l
		}
	}
	t.Fatal("it does not run", r.Info())
	return nil
}

// lead lets it run, and all others vote for it.
func lead(t *testing.T, r *raft.Raft) []api.Msg {
	t.Helper()
	for _, m := range candidate(t, r) {
		if l := r.Take(voteTold(m.To, m.From, m.Term)); len(l) > 0 {
			return l
		}
	}
	t.Fatal("it does not lead", r.Info())
	return nil
}

// leaderOf leads the term 1 of these members, with a Noop at the place 1.
func leaderOf(t *testing.T, me, members int) *raft.Raft {
	t.Helper()
	r := begun(t, me, members)
	lead(t, r)
	return r
}

// agreedLeader is such a one whose Noop all others have.
func agreedLeader(t *testing.T, me, members int) *raft.Raft {
	t.Helper()
	r := leaderOf(t, me, members)
	for _, i := range othersOf(me, members) {
		r.Take(addTold(i, me, 1, 1))
	}
	if r.Info().Commit != 1 {
		t.Fatal("its Noop is not agreed on", r.Info())
	}
	return r
}
