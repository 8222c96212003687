package entries_test

import (
	"math"
	"math/rand"
	"slices"
	"testing"

	"caisson/api"
	"caisson/entries"
)

// joined is what P9.3 says of a join, with its log as a model.
type joined struct {
	log             model
	yes             bool
	end, from, back int64
}

func allCan(l []api.Entry) bool {
	return !slices.ContainsFunc(l, func(e api.Entry) bool {
		if e.Kind == api.Config {
			return e.Term < 1 || e.Term > highest || len(e.Cmd) != 1 || e.Cmd[0] < 1 || e.Cmd[0] > 31
		}
		return e.Kind < 0 || e.Kind > 2 || e.Term < 1 || e.Term > highest || len(e.Cmd) > 4080
	})
}

func risesFrom(term int64, l []api.Entry) bool {
	for _, e := range l {
		if e.Term < term {
			return false
		}
		term = e.Term
	}
	return true
}

func (m model) back(at int64) int64 {
	if at > m.top() {
		return m.top()
	}
	if at <= m.at {
		return m.at
	}
	back := m.at
	for _, r := range m.runs() {
		if r.at <= at {
			back = r.at - 1
		}
	}
	return back
}

// join is of places that are not so great that they go round.
func (m model) join(at, term int64, l []api.Entry) joined {
	place := func(i int) int64 { return at + 1 + int64(i) }
	left := 0
	for left < len(l) && place(left) <= m.at {
		left++
	}
	if at >= m.at && (m.termAt(at) == -1 || m.termAt(at) != term) || at < m.at && left == len(l) {
		return joined{back: m.back(at)}
	}
	for left < len(l) && m.has(place(left)) && m.termAt(place(left)) == l[left].Term {
		left++
	}
	end := at + int64(len(l))
	if left == len(l) {
		return joined{log: m, yes: true, end: end}
	}
	from := place(left)
	kept := m.l[:from-m.at-1]
	if len(kept)+len(l)-left > api.MaxLog || !allCan(l[left:]) || !risesFrom(m.termAt(from-1), l[left:]) {
		return joined{back: from - 1}
	}
	m.l = slices.Concat(kept, l[left:])
	return joined{log: m, yes: true, end: end, from: from}
}

func joins(t *testing.T, g *entries.Log, m model, at, term int64, l []api.Entry) {
	t.Helper()
	isJoined(t, g.Join(at, term, l), m.join(at, term, l))
}

func isJoined(t *testing.T, x entries.Joined, want joined) {
	t.Helper()
	if x.Yes != want.yes || x.End != want.end || x.From != want.from || x.Back != want.back || (x.Log != nil) != x.Yes {
		t.Fatal("Join", x, "not", want)
	}
	if x.Yes {
		shows(t, x.Log, want.log)
	}
}

// P9.3: what is joined stands behind a place that both have, and what stood there before is gone from the first one on that is another one.
func TestJoinBehindAPlace(t *testing.T) {
	m := model{0, 0, 7, writes(1, 1, 2, 2)}
	g := newLog(t, 0, 0, 7, m.l...)
	with := func(n int, l ...api.Entry) model { return model{0, 0, 7, slices.Concat(m.l[:n], l)} }
	for _, c := range []struct {
		at, term int64
		l        []api.Entry
		want     joined
	}{
		{4, 2, nil, joined{log: m, yes: true, end: 4}},
		{0, 0, nil, joined{log: m, yes: true, end: 0}},
		{2, 1, nil, joined{log: m, yes: true, end: 2}},
		{4, 2, writes(2), joined{log: with(4, writes(2)...), yes: true, end: 5, from: 5}},
		{4, 2, writes(7, 8), joined{log: with(4, writes(7, 8)...), yes: true, end: 6, from: 5}},
		{0, 0, writes(1, 1, 2, 2), joined{log: m, yes: true, end: 4}},
		{0, 0, writes(1), joined{log: m, yes: true, end: 1}},
		{1, 1, writes(1, 2), joined{log: m, yes: true, end: 3}},
		{1, 1, writes(1, 2, 2, 2), joined{log: with(4, write(2, "d")), yes: true, end: 5, from: 5}},
		{2, 1, writes(3), joined{log: with(2, writes(3)...), yes: true, end: 3, from: 3}},
		{1, 1, writes(1, 3), joined{log: with(2, write(3, "b")), yes: true, end: 3, from: 3}},
		{0, 0, writes(2), joined{log: with(0, writes(2)...), yes: true, end: 1, from: 1}},
		// A place that is there with its term is kept, whatever else the entry says.
		{3, 2, []api.Entry{{Kind: api.Config, Term: 2, Cmd: []byte{99}}}, joined{log: m, yes: true, end: 4}},
		// Places that do not meet.
		{4, 3, nil, joined{back: 2}}, {4, 1, writes(5), joined{back: 2}}, {3, 1, nil, joined{back: 2}}, {2, 2, nil, joined{back: 0}}, {1, 0, nil, joined{back: 0}}, {0, 1, nil, joined{back: 0}},
		{5, 2, nil, joined{back: 4}}, {9, 9, writes(9), joined{back: 4}}, {5, -1, nil, joined{back: 4}}, {4, -1, nil, joined{back: 2}},
		{math.MaxInt64, 2, writes(2), joined{back: 4}}, {math.MaxInt64, -1, nil, joined{back: 4}},
	} {
		isJoined(t, g.Join(c.at, c.term, c.l), c.want)
		joins(t, g, m, c.at, c.term, c.l) // the model says so, too
	}
	shows(t, g, m)
}

// P9.3: entries below the floor are passed over, and the term of a place below it is not asked for.
func TestJoinBelowTheFloor(t *testing.T) {
	m := model{5, 2, 7, writes(2, 3, 3)}
	g := newLog(t, 5, 2, 7, m.l...)
	with := func(n int, l ...api.Entry) model { return model{5, 2, 7, slices.Concat(m.l[:n], l)} }
	for _, c := range []struct {
		at, term int64
		l        []api.Entry
		want     joined
	}{
		{4, 1, nil, joined{back: 5}}, {4, 2, writes(2), joined{back: 5}}, {0, 0, writes(1, 1, 2, 2, 2), joined{back: 5}}, {0, 0, nil, joined{back: 5}},
		{4, 99, writes(2, 2), joined{log: m, yes: true, end: 6}},
		{3, -7, writes(1, 1, 2, 3), joined{log: m, yes: true, end: 7}},
		{4, 1, writes(2, 2, 3, 3, 3), joined{log: with(3, write(3, "e")), yes: true, end: 9, from: 9}},
		{4, 1, writes(9, 4), joined{log: with(0, write(4, "b")), yes: true, end: 6, from: 6}},
		{0, 0, writes(1, 1, 1, 1, 1, 2, 4), joined{log: with(1, write(4, "g")), yes: true, end: 7, from: 7}},
		// What is passed over is not asked whether it can be.
		{4, 1, []api.Entry{{Kind: 77, Term: -5}, write(2, "x")}, joined{log: m, yes: true, end: 6}},
		// A place below 0 is below the floor.
		{-2, 0, writes(1, 1, 1, 1, 1, 1, 1, 2, 3), joined{log: m, yes: true, end: 7}}, {-2, 0, writes(1, 1, 1), joined{back: 5}},
		{math.MinInt64, 0, nil, joined{back: 5}}, {math.MinInt64, 0, writes(1, 2), joined{back: 5}},
		// The floor's place itself has its term.
		{5, 2, nil, joined{log: m, yes: true, end: 5}}, {5, 2, writes(4), joined{log: with(0, writes(4)...), yes: true, end: 6, from: 6}}, {5, 1, nil, joined{back: 5}}, {5, 3, writes(3), joined{back: 5}},
		{6, 3, nil, joined{back: 5}}, {8, 2, nil, joined{back: 6}}, {7, 2, nil, joined{back: 6}}, {9, 3, nil, joined{back: 8}},
	} {
		isJoined(t, g.Join(c.at, c.term, c.l), c.want)
	}
	shows(t, g, m)
	empty := newLog(t, 5, 2, 7)
	for _, at := range []int64{0, 4, 5, 6, 7} {
		if x := empty.Join(at, 9, nil); x != (entries.Joined{Back: 5}) {
			t.Error("Join", at, x)
		}
	}
}

// P9.3: what With would refuse is refused, and it is told where all is well up to.
func TestJoinRefuses(t *testing.T) {
	m := model{0, 0, 7, writes(1, 3, 3)}
	g := newLog(t, 0, 0, 7, m.l...)
	for _, c := range []struct {
		at, term int64
		l        []api.Entry
		back     int64
	}{
		{3, 3, writes(2), 3}, {3, 3, writes(0), 3}, {3, 3, writes(-1), 3}, {3, 3, writes(highest + 1), 3}, {3, 3, writes(4, 3), 3},
		{1, 1, writes(3, 2), 2}, {1, 1, writes(3, 3, 2), 3}, {1, 1, writes(3, 3, -1), 3}, {0, 0, writes(2, 1), 0}, {0, 0, writes(0), 0},
		{2, 3, []api.Entry{{Kind: 5, Term: 4}}, 2}, {2, 3, []api.Entry{write(4, "a"), config(4, 0)}, 2}, {2, 3, []api.Entry{write(3, "a"), config(4, 32)}, 3},
	} {
		isJoined(t, g.Join(c.at, c.term, c.l), joined{back: c.back})
	}
	full := newLog(t, 0, 0, 7, slices.Repeat([]api.Entry{write(1, "")}, api.MaxLog)...)
	isJoined(t, full.Join(api.MaxLog, 1, writes(1)), joined{back: api.MaxLog})
	isJoined(t, full.Join(api.MaxLog-1, 1, writes(1, 1)), joined{back: api.MaxLog})
	isJoined(t, full.Join(api.MaxLog-1, 1, writes(2, 2)), joined{back: api.MaxLog - 1})
	if x := full.Join(api.MaxLog-1, 1, writes(2)); !x.Yes || x.End != api.MaxLog || x.From != api.MaxLog {
		t.Error("Join", x.Yes, x.End, x.From, x.Back)
	}
	shows(t, g, m)
}

// someEntries is entries of rising terms, at most so great, mostly ones that can be.
func someEntries(r *rand.Rand, term, most int64, n int) []api.Entry {
	var l []api.Entry
	for range n {
		if term < most && r.Intn(3) == 0 {
			term++
		}
		e := api.Entry{Kind: r.Intn(2), Term: max(1, term), Cmd: []byte{byte(r.Intn(256))}}
		if r.Intn(5) == 0 {
			e = config(max(1, term), byte(1+r.Intn(31)))
		}
		l = append(l, e)
	}
	return l
}

func someModel(r *rand.Rand) model {
	m := model{members: 1 + r.Intn(31)}
	if r.Intn(2) == 0 {
		m.at, m.term = int64(1+r.Intn(5)), int64(r.Intn(3))
	}
	m.l = someEntries(r, m.term, 5, r.Intn(8))
	return m
}

// P9.1, P9.2, P9.3, P9.5: whatever is made of a log is as the document says, and the log stays as it was.
func TestLogsAtRandom(t *testing.T) {
	r := rand.New(rand.NewSource(1))
	for range 6000 {
		m := someModel(r)
		g := newLog(t, m.at, m.term, m.members, m.l...)
		l := someEntries(r, int64(r.Intn(5)), 6, r.Intn(6))
		if len(l) > 0 && r.Intn(6) == 0 {
			l[r.Intn(len(l))] = entryCases()[r.Intn(len(entryCases()))].e
		}
		at := m.at - 4 + int64(r.Intn(15))
		term := m.termAt(at)
		if r.Intn(4) == 0 {
			term = int64(r.Intn(7)) - 1
		}
		joins(t, g, m, at, term, l)
		h, e := g.With(l...)
		if can := allCan(l) && risesFrom(m.termAt(m.top()), l); can != (e == api.OK) {
			t.Fatal("With", m, l, e)
		} else if can {
			shows(t, h, model{m.at, m.term, m.members, slices.Concat(m.l, l)})
		}
		if h, e := g.Upto(at); e == api.OK {
			shows(t, h, model{m.at, m.term, m.members, m.l[:at-m.at]})
			ahead := someEntries(r, h.Term(at), 9, 2)
			_, e = h.With(ahead...) // does not write into what g has there
			ok(t, e)
		}
		if h, e := g.Over(at); e == api.OK {
			shows(t, h, model{at, m.termAt(at), m.membersAt(at), m.l[at-m.at:]})
		}
		shows(t, g, m)
	}
}

// P9.5: what is handed in is not kept, and what is answered is new memory.
func TestLogSharesNothing(t *testing.T) {
	m := model{0, 0, 7, []api.Entry{write(1, "abc"), config(2, 3), write(2, "de"), {Kind: api.Noop, Term: 3, Cmd: []byte("f")}}}
	spoil := func(l []api.Entry) {
		for i := range l {
			clear(l[i].Cmd)
			_ = append(l[i].Cmd, 9)
			l[i] = api.Entry{}
		}
	}
	given := []api.Entry{write(1, "abc"), config(2, 3), write(2, "de"), {Kind: api.Noop, Term: 3, Cmd: []byte("f")}}
	g := newLog(t, 0, 0, 7, given...)
	spoil(given)
	shows(t, g, m)
	more := writes(4, 5)
	x := g.Join(4, 3, more)
	spoil(more)
	shows(t, x.Log, model{0, 0, 7, slices.Concat(m.l, writes(4, 5))})
	for range 2 {
		spoil(g.Slice(1, 4))
		for n := range int64(5) {
			e, _ := g.At(n)
			spoil([]api.Entry{e})
		}
		_ = append(g.Slice(1, 2), write(9, "x"))
		shows(t, g, m)
	}
}

// P9.5: logs that are made of one log do not see each other.
func TestTwoLogsOfOne(t *testing.T) {
	g := newLog(t, 0, 0, 7, writes(1, 1, 1)...)
	h, e := g.Upto(2)
	ok(t, e)
	a, e := h.With(write(2, "left"))
	ok(t, e)
	b, e := h.With(write(3, "right"))
	ok(t, e)
	c, e := g.With(write(4, "up"))
	ok(t, e)
	d, e := g.With(write(5, "down"))
	ok(t, e)
	all := writes(1, 1, 1)
	shows(t, g, model{0, 0, 7, all})
	shows(t, h, model{0, 0, 7, all[:2]})
	shows(t, a, model{0, 0, 7, slices.Concat(all[:2], []api.Entry{write(2, "left")})})
	shows(t, b, model{0, 0, 7, slices.Concat(all[:2], []api.Entry{write(3, "right")})})
	shows(t, c, model{0, 0, 7, slices.Concat(all, []api.Entry{write(4, "up")})})
	shows(t, d, model{0, 0, 7, slices.Concat(all, []api.Entry{write(5, "down")})})
}

// P9.6: joined with what another log has behind a place at which both are the same, a log has that one's terms up to there; what has changed is that one's; and joined again it is as it is.
func TestJoinWithAnotherLog(t *testing.T) {
	r := rand.New(rand.NewSource(2))
	changed := 0
	for range 4000 {
		same := someEntries(r, 0, 3, r.Intn(6))
		last := int64(1)
		if len(same) > 0 {
			last = same[len(same)-1].Term
		}
		// Behind what is the same one log goes on by odd terms, the other one by even ones.
		mine, other := slices.Clone(same), slices.Clone(same)
		for i := range r.Intn(4) {
			mine = append(mine, write(2*last+2*int64(i)+1, "mine"))
		}
		for i := range r.Intn(4) {
			other = append(other, write(2*last+2*int64(i)+2, "other"))
		}
		floor := int64(r.Intn(len(same) + 1))
		g, e := newLog(t, 0, 0, 7, mine...).Over(floor)
		ok(t, e)
		h := newLog(t, 0, 0, 7, other...)
		at := int64(r.Intn(len(same) + 1))
		l := h.Slice(at+1, r.Intn(6))
		x := g.Join(at, h.Term(at), l)
		if !x.Yes {
			if at >= floor || at+int64(len(l)) > floor {
				t.Fatal("Join", at, len(l), floor, x)
			}
			continue
		}
		for n := max(at, floor); n <= x.End; n++ {
			if x.Log.Term(n) != h.Term(n) {
				t.Fatal("Join: the term at", n, x.Log.Term(n), h.Term(n))
			}
		}
		top, _ := x.Log.Top()
		for n := floor + 1; n <= top; n++ {
			now, _ := x.Log.At(n)
			was, _ := g.At(n)
			that, _ := h.At(n)
			if x.From == 0 || n < x.From {
				that = was
			}
			if !sameEntry(now, that) {
				t.Fatal("Join: the entry at", n, now, that)
			}
		}
		if x.From > 0 {
			changed++
		}
		if y := x.Log.Join(at, h.Term(at), l); !y.Yes || y.From != 0 || y.End != x.End || !slices.EqualFunc(y.Log.Slice(floor+1, 99), x.Log.Slice(floor+1, 99), sameEntry) {
			t.Fatal("joined again", y)
		}
	}
	if changed < 500 {
		t.Error("few logs have changed:", changed)
	}
}
