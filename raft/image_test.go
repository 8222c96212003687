package raft_test

import (
	"bytes"
	"math"
	"slices"
	"testing"

	"caisson/api"
	"caisson/entries"
	"caisson/raft"
)

// farAhead leads the machines 0 to 3 with a floor at the place 4, of which the machines 1 and 2 have all.
func farAhead(t *testing.T) *raft.Raft {
	t.Helper()
	r := agreedLeader(t, 0, 15)
	for range 5 {
		_, _, e := r.Offer(api.Write, []byte("w"))
		ok(t, e)
	}
	r.Take(addTold(1, 0, 1, 6))
	r.Take(addTold(2, 0, 1, 6))
	ok(t, r.Floor(4))
	return r
}

// P10.5: who needs an image: the other members to whom what is next is below the floor.
func TestLacking(t *testing.T) {
	r := farAhead(t)
	lacking := func(want ...int) {
		t.Helper()
		if l := r.Lacking(); !slices.Equal(l, want) {
			t.Error("Lacking", l, "not", want)
		}
	}
	lacking(3)
	r.Take(addTold(3, 0, 1, 3)) // next is the floor's place
	lacking(3)
	r.Take(addTold(3, 0, 1, 4))
	lacking()
	ok(t, r.Floor(6))
	lacking(3)
	// Who is no member lacks nothing; as soon as it is one, it does.
	_, _, e := r.Offer(api.Config, []byte{31})
	ok(t, e)
	lacking(3, 4)
	r.Take(addTold(4, 0, 1, 6))
	lacking(3)
	clear(r.Lacking())
	lacking(3)
	r.Take(api.Msg{Kind: api.Beat, From: 1, To: 0, Term: 2})
	lacking()
	for _, become := range []func(*testing.T, *raft.Raft) []api.Msg{nil, asker, candidate} {
		r = newRaft(t, 0, 2, -1, newLog(t, 5, 2, 7), 5)
		if become != nil {
			become(t, r)
		}
		lacking()
	}
}

// P10.5: a part of the image that stands for the floor.
func TestPart(t *testing.T) {
	r := farAhead(t)
	p := []byte("image")
	for _, to := range []int{1, 3, 4} {
		m, e := r.Part(to, p)
		if want := (api.Msg{Kind: api.Part, From: 0, To: to, Term: 1, At: 4, AtTerm: 1, Commit: 15, Data: []byte("image")}); e != api.OK || !sameMsg(m, want) {
			t.Errorf("Part: %+v %v", m, e)
		}
		clear(m.Data)
	}
	m, e := r.Part(3, p)
	clear(p)
	if e != api.OK || string(m.Data) != "image" {
		t.Error("Part keeps what was handed in")
	}
	const most = api.MaxBytes - 100
	for _, c := range []struct {
		to, n int
		want  api.Errno
	}{
		{1, 0, api.OK}, {1, most, api.OK}, {1, most + 1, api.ErrSize}, {1, 1 << 20, api.ErrSize},
		{0, 0, api.ErrArg}, {-1, 0, api.ErrArg}, {5, 0, api.ErrArg}, {math.MaxInt, 0, api.ErrArg}, {math.MinInt, 0, api.ErrArg}, {0, most + 1, api.ErrArg},
	} {
		m, e := r.Part(c.to, make([]byte, c.n))
		if e != c.want || e != api.OK && !sameMsg(m, api.Msg{}) || len(m.Data) != c.n && e == api.OK {
			t.Error("Part", c, e)
		}
		if b, f := entries.PackMsg(m); e == api.OK && (f != api.OK || !bytes.Contains(b, m.Data)) {
			t.Error("PackMsg", f)
		}
	}
	for _, become := range []func(*testing.T, *raft.Raft) []api.Msg{nil, asker, candidate} {
		r = newRaft(t, 0, 2, -1, newLog(t, 5, 2, 7), 5)
		if become != nil {
			become(t, r)
		}
		for _, to := range []int{0, 1, 9} {
			if m, e := r.Part(to, make([]byte, most+1)); e != api.ErrState || !sameMsg(m, api.Msg{}) {
				t.Error("Part", m, e)
			}
		}
	}
}

// image is the last message of an image that can be settled by the replica 1 of TestSettle.
func image(change func(*api.Msg)) api.Msg {
	m := api.Msg{Kind: api.Part, From: 3, To: 1, Term: 6, At: 9, AtTerm: 5, Commit: 15}
	change(&m)
	return m
}

// P10.5: an image is what the log begins with; what stands above it stays, if the log has its last place.
func TestSettle(t *testing.T) {
	for _, c := range []struct {
		m       api.Msg
		told    bool
		members int
		have    []int64
	}{
		{image(func(*api.Msg) {}), true, 15, nil},
		{image(func(m *api.Msg) { m.Term = 5 }), false, 15, nil},
		{image(func(m *api.Msg) { m.Term, m.AtTerm = 1, 1 }), false, 15, nil},
		{image(func(m *api.Msg) { m.AtTerm = 6 }), true, 15, nil},
		{image(func(m *api.Msg) { m.AtTerm = 1 }), true, 15, nil},
		{image(func(m *api.Msg) { m.At = highest }), true, 15, nil},
		{image(func(m *api.Msg) { m.Commit = 1 }), true, 1, nil},
		{image(func(m *api.Msg) { m.Commit = 31 }), true, 31, nil},
		{image(func(m *api.Msg) { m.At, m.AtTerm = 6, 4 }), true, 7, nil},
		{image(func(m *api.Msg) { m.At, m.AtTerm = 5, 4 }), true, 7, []int64{4}},
		{image(func(m *api.Msg) { m.At, m.AtTerm, m.Term = 5, 4, 5 }), false, 7, []int64{4}},
		{image(func(m *api.Msg) { m.At, m.AtTerm = 5, 3 }), true, 15, nil},
		{image(func(m *api.Msg) { m.Round, m.Yes, m.Data = -5, true, []byte("x") }), true, 15, nil},
	} {
		r := newRaft(t, 1, 6, 3, newLog(t, 2, 1, 7, writes(2, 2, 4, 4)...), 4)
		l, e := r.Settle(c.m)
		ok(t, e)
		if c.told {
			sends(t, l, api.Msg{Kind: api.AddTold, From: 1, To: 3, Term: 6, At: c.m.At, Yes: true})
		} else {
			sends(t, l)
		}
		if at, term, members := r.Log().Floor(); at != c.m.At || term != c.m.AtTerm || members != c.members {
			t.Error("Floor", at, term, members, "of", c.m)
		}
		has(t, r, writes(c.have...)...)
		is(t, r, raft.Info{Term: 6, Voted: 3, Leader: -1, Commit: c.m.At, Members: c.members})
		// Twice is once too often.
		if l, e := r.Settle(c.m); len(l) != 0 || e != api.ErrArg {
			t.Error("Settle again", l, e)
		}
	}
}

// P10.5: what is no image that can be settled.
func TestSettleRefuses(t *testing.T) {
	numbers := func(set func(*api.Msg, int64), l ...int64) []api.Msg {
		var out []api.Msg
		for _, n := range l {
			out = append(out, image(func(m *api.Msg) { set(m, n) }))
		}
		return out
	}
	for _, m := range slices.Concat(
		numbers(func(m *api.Msg, n int64) { m.Kind = int(n) }, 0, api.Beat, api.Add, api.AddTold, 10, -1),
		numbers(func(m *api.Msg, n int64) { m.From = int(n) }, 1, -1, 5, math.MaxInt64, math.MinInt64),
		numbers(func(m *api.Msg, n int64) { m.To = int(n) }, 0, 3, -1, 5, math.MaxInt64),
		numbers(func(m *api.Msg, n int64) { m.Term = n }, 0, -1, 7, 4, highest, math.MaxInt64, math.MinInt64),
		numbers(func(m *api.Msg, n int64) { m.At = n }, 4, 3, 0, -1, highest+1, math.MaxInt64, math.MinInt64),
		numbers(func(m *api.Msg, n int64) { m.AtTerm = n }, 0, -1, 7, math.MaxInt64, math.MinInt64),
		numbers(func(m *api.Msg, n int64) { m.Commit = n }, 0, -1, 32, 1<<32+7, math.MaxInt64, math.MinInt64),
	) {
		r := newRaft(t, 1, 6, 3, newLog(t, 2, 1, 7, writes(2, 2, 4, 4)...), 4)
		before, log := r.Info(), r.Log()
		if l, e := r.Settle(m); len(l) != 0 || e != api.ErrArg || r.Info() != before || r.Log() != log {
			t.Errorf("Settle(%+v) = %v %v", m, l, e)
		}
	}
	r := leaderOf(t, 1, 7)
	for _, m := range []api.Msg{{}, {Kind: api.Part, From: 3, To: 1, Term: 1, At: 9, AtTerm: 1, Commit: 7}} {
		if l, e := r.Settle(m); len(l) != 0 || e != api.ErrState {
			t.Error("Settle of a Leader", l, e)
		}
	}
	// Also of a place that it has, the members must be some.
	r = newRaft(t, 1, 6, 3, newLog(t, 2, 1, 7, writes(2, 2, 4, 4)...), 4)
	if l, e := r.Settle(image(func(m *api.Msg) { m.At, m.AtTerm, m.Commit = 5, 4, 32 })); len(l) != 0 || e != api.ErrArg {
		t.Error("Settle", l, e)
	}
	// And the place must be one that can be, also if the log has it.
	r = newRaft(t, 1, 6, 3, newLog(t, highest, 1, 7, writes(2, 2)...), highest)
	if l, e := r.Settle(image(func(m *api.Msg) { m.At, m.AtTerm = highest+1, 2 })); len(l) != 0 || e != api.ErrArg {
		t.Error("Settle", l, e)
	}
}

// P10.5: an image goes from who leads to who lacks it, and then entries do.
func TestAnImageOnItsWay(t *testing.T) {
	r := farAhead(t)
	x := begun(t, 3, 15)
	m, e := r.Part(3, []byte("image"))
	ok(t, e)
	sends(t, x.Take(m))
	is(t, x, raft.Info{Term: 1, Voted: -1, Leader: 0, Members: 15})
	l := x.Parts()
	sends(t, l, m)
	l, e = x.Settle(l[0])
	ok(t, e)
	is(t, x, raft.Info{Term: 1, Voted: -1, Leader: 0, Commit: 4, Members: 15})
	l = r.Take(l[0])
	if len(l) != 1 || l[0].At != 4 || len(l[0].L) != 2 || len(r.Lacking()) != 0 {
		t.Fatal("Take", l)
	}
	sends(t, x.Take(l[0]), addTold(3, 0, 1, 6))
	is(t, x, raft.Info{Term: 1, Voted: -1, Leader: 0, Commit: 6, Members: 15})
	has(t, x, write(1, "w"), write(1, "w"))
	// The part comes once more, late.
	sends(t, x.Take(m), addTold(3, 0, 1, 6))
}
