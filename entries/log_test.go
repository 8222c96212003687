package entries_test

import (
	"bytes"
	"math"
	"slices"
	"testing"

	"caisson/api"
	"caisson/entries"
)

const highest = int64(1) << 40

func write(term int64, cmd string) api.Entry {
	return api.Entry{Kind: api.Write, Term: term, Cmd: []byte(cmd)}
}

func config(term int64, members byte) api.Entry {
	return api.Entry{Kind: api.Config, Term: term, Cmd: []byte{members}}
}

// writes are entries of these terms, no two with one command.
func writes(terms ...int64) []api.Entry {
	var l []api.Entry
	for i, n := range terms {
		l = append(l, write(n, string(rune('a'+i%26))))
	}
	return l
}

func sameEntry(a, b api.Entry) bool {
	return a.Kind == b.Kind && a.Term == b.Term && bytes.Equal(a.Cmd, b.Cmd)
}

func ok(t *testing.T, e api.Errno) {
	t.Helper()
	if e != api.OK {
		t.Fatal("an error:", e)
	}
}

func newLog(t *testing.T, at, term int64, members int, l ...api.Entry) *entries.Log {
	t.Helper()
	g, e := entries.New(at, term, members)
	ok(t, e)
	g, e = g.With(l...)
	ok(t, e)
	return g
}

// model is a log as the document has it, by the plainest means.
type model struct {
	at, term int64
	members  int
	l        []api.Entry
}

func (m model) top() int64 { return m.at + int64(len(m.l)) }

func (m model) has(n int64) bool { return n > m.at && n <= m.top() }

func (m model) termAt(n int64) int64 {
	if n == m.at {
		return m.term
	}
	if !m.has(n) {
		return -1
	}
	return m.l[n-m.at-1].Term
}

func (m model) membersAt(n int64) int {
	if m.termAt(n) == -1 {
		return 0
	}
	members := m.members
	for i, e := range m.l {
		if e.Kind == api.Config && m.at+1+int64(i) <= n {
			members = int(e.Cmd[0])
		}
	}
	return members
}

func (m model) change() int64 {
	for i, e := range slices.Backward(m.l) {
		if e.Kind == api.Config {
			return m.at + 1 + int64(i)
		}
	}
	return 0
}

type run struct{ at, term int64 }

func (m model) runs() []run {
	var l []run
	for i, e := range m.l {
		if i == 0 || m.l[i-1].Term != e.Term {
			l = append(l, run{m.at + 1 + int64(i), e.Term})
		}
	}
	return l
}

func runsOf(g *entries.Log) []run {
	var l []run
	for at, term := range g.Runs() {
		l = append(l, run{at, term})
	}
	return l
}

// shows holds all that a log tells against a model.
func shows(t *testing.T, g *entries.Log, m model) {
	t.Helper()
	if at, term, members := g.Floor(); at != m.at || term != m.term || members != m.members {
		t.Fatal("Floor", at, term, members, "not", m)
	}
	if at, term := g.Top(); at != m.top() || term != m.termAt(m.top()) {
		t.Fatal("Top", at, term, "not", m)
	}
	places := []int64{math.MinInt64, math.MinInt64 + 1, -1, 0, 1, highest, highest + 1, math.MaxInt64 - 1, math.MaxInt64}
	for n := m.at - 3; n <= m.top()+3; n++ {
		places = append(places, n)
	}
	for _, n := range places {
		showsAt(t, g, m, n)
	}
	if n := g.Change(); n != m.change() {
		t.Fatal("Change", n, "not", m.change())
	}
	if l := runsOf(g); !slices.Equal(l, m.runs()) {
		t.Fatal("Runs", l, "not", m.runs())
	}
}

func showsAt(t *testing.T, g *entries.Log, m model, n int64) {
	t.Helper()
	e, there := g.At(n)
	if there != m.has(n) || !there && (e.Kind != 0 || e.Term != 0 || len(e.Cmd) != 0) || there && !sameEntry(e, m.l[n-m.at-1]) {
		t.Fatal("At", n, e, there)
	}
	if term := g.Term(n); term != m.termAt(n) {
		t.Fatal("Term", n, term, "not", m.termAt(n))
	}
	if members := g.Members(n); members != m.membersAt(n) {
		t.Fatal("Members", n, members, "not", m.membersAt(n))
	}
	for _, most := range []int{math.MinInt, -1, 0, 1, 2, 5, math.MaxInt} {
		var want []api.Entry
		if m.has(n) {
			want = m.l[n-m.at-1:]
			want = want[:min(len(want), max(0, most))]
		}
		if l := g.Slice(n, most); !slices.EqualFunc(l, want, sameEntry) {
			t.Fatal("Slice", n, most, l, "not", want)
		}
	}
}

// P9.1: floors that can be, and cannot.
func TestNew(t *testing.T) {
	for _, c := range []struct {
		at, term int64
		members  int
		want     api.Errno
	}{
		{0, 0, 1, api.OK}, {0, 0, 7, api.OK}, {0, 0, 31, api.OK}, {1, 0, 16, api.OK}, {1, 1, 1, api.OK}, {3, 9, 5, api.OK},
		{highest, highest, 31, api.OK}, {1, highest, 1, api.OK}, {highest, 0, 1, api.OK},
		{-1, 0, 1, api.ErrArg}, {highest + 1, 1, 1, api.ErrArg}, {math.MinInt64, 0, 1, api.ErrArg}, {math.MaxInt64, 0, 1, api.ErrArg},
		{1, -1, 1, api.ErrArg}, {1, highest + 1, 1, api.ErrArg}, {1, math.MinInt64, 1, api.ErrArg}, {1, math.MaxInt64, 1, api.ErrArg},
		{0, 0, 0, api.ErrArg}, {0, 0, -1, api.ErrArg}, {0, 0, 32, api.ErrArg}, {0, 0, math.MaxInt, api.ErrArg}, {0, 0, math.MinInt, api.ErrArg}, {5, 5, 33, api.ErrArg},
		{0, 1, 1, api.ErrArg}, {0, highest, 1, api.ErrArg},
	} {
		g, e := entries.New(c.at, c.term, c.members)
		if e != c.want || (g == nil) != (e != api.OK) {
			t.Errorf("New(%d, %d, %d) = %v %v, not %v", c.at, c.term, c.members, g, e, c.want)
		}
		if e == api.OK {
			shows(t, g, model{at: c.at, term: c.term, members: c.members})
		}
	}
}

// P9.1: what logs tell of their places, with and without changes of the members.
func TestWhatALogTells(t *testing.T) {
	for _, m := range []model{
		{0, 0, 7, writes(1, 1, 2, 2)},
		{0, 0, 1, writes(1)},
		{5, 2, 3, writes(2, 2, 2)},
		{5, 2, 3, writes(3, 3, 9, highest)},
		{7, 0, 31, writes(1, 2, 3)},
		{0, 0, 7, []api.Entry{{Term: 1}, config(1, 15), write(1, "a"), config(2, 31), write(3, ""), {Term: 3, Cmd: []byte("noop")}}},
		{9, 4, 7, []api.Entry{config(4, 3)}},
		{9, 4, 7, []api.Entry{config(4, 3), config(4, 1), config(5, 3)}},
		{9, 4, 7, []api.Entry{write(4, "a"), write(5, "b"), config(5, 6)}},
		{highest - 2, 4, 7, writes(4, 5, 6, 6)},
	} {
		shows(t, newLog(t, m.at, m.term, m.members, m.l...), m)
	}
}

// P9.1: the document's example.
func TestRunsOfTheExample(t *testing.T) {
	g := newLog(t, 0, 0, 7, writes(1, 1, 2, 2)...)
	if l := runsOf(g); !slices.Equal(l, []run{{1, 1}, {3, 2}}) {
		t.Error("Runs", l)
	}
	if x := g.Join(4, 3, nil); x != (entries.Joined{Back: 2}) {
		t.Error("Join(4, 3)", x)
	}
	if x := g.Join(2, 1, writes(3)); !x.Yes || x.End != 3 || x.From != 3 || x.Back != 0 {
		t.Error("Join(2, 1, 3)", x)
	} else if at, term := x.Log.Top(); at != 3 || term != 3 {
		t.Error("Join(2, 1, 3)", at, term)
	}
	if x := g.Join(9, 9, nil); x != (entries.Joined{Back: 4}) {
		t.Error("Join(9, 9)", x)
	}
}

// P9.1: who goes through runs may stop, and may go through them again.
func TestRunsAreLeft(t *testing.T) {
	seq := newLog(t, 3, 1, 7, writes(1, 2, 3, 4)...).Runs()
	for range 2 {
		var seen []int64
		for at := range seq {
			seen = append(seen, at)
			if at == 5 {
				break
			}
		}
		if !slices.Equal(seen, []int64{4, 5}) {
			t.Error("Runs", seen)
		}
	}
}

// P9.1, P1: of nil.
func TestNilLog(t *testing.T) {
	var g *entries.Log
	if at, term, members := g.Floor(); at != 0 || term != 0 || members != 0 {
		t.Error("Floor", at, term, members)
	}
	if at, term := g.Top(); at != 0 || term != 0 || g.Change() != 0 || len(runsOf(g)) != 0 {
		t.Error("Top", at, term)
	}
	for _, n := range []int64{math.MinInt64, -1, 0, 1, math.MaxInt64} {
		if e, there := g.At(n); there || !sameEntry(e, api.Entry{}) || g.Term(n) != -1 || g.Members(n) != 0 || len(g.Slice(n, 9)) != 0 {
			t.Error("At", n, e)
		}
		if h, e := g.Upto(n); h != nil || e != api.ErrNil {
			t.Error("Upto", n, e)
		}
		if h, e := g.Over(n); h != nil || e != api.ErrNil {
			t.Error("Over", n, e)
		}
		for _, l := range [][]api.Entry{nil, writes(1), {{Kind: 9}}} {
			if x := g.Join(n, 0, l); x != (entries.Joined{}) {
				t.Error("Join", n, x)
			}
			if h, e := g.With(l...); h != nil || e != api.ErrNil {
				t.Error("With", e)
			}
		}
		if h, e := g.With(make([]api.Entry, 5000)...); h != nil || e != api.ErrNil {
			t.Error("With", e)
		}
	}
}

// P1: a log that New did not make is one of nothing.
func TestZeroLog(t *testing.T) {
	shows(t, new(entries.Log), model{})
	g, e := new(entries.Log).With(writes(1, 2)...)
	ok(t, e)
	shows(t, g, model{l: writes(1, 2)})
	if x := new(entries.Log).Join(0, 0, writes(1, 2)); !x.Yes || x.From != 1 || x.End != 2 {
		t.Error("Join", x)
	}
}

// entryCases are entries that can be, and that cannot.
func entryCases() []struct {
	e   api.Entry
	can bool
} {
	long := make([]byte, 4080)
	longer := make([]byte, 4081)
	return []struct {
		e   api.Entry
		can bool
	}{
		{api.Entry{Kind: api.Noop, Term: 1}, true}, {api.Entry{Kind: api.Noop, Term: 1, Cmd: []byte("x")}, true}, {api.Entry{Kind: api.Noop, Term: 1, Cmd: long}, true},
		{api.Entry{Kind: api.Write, Term: 1}, true}, {api.Entry{Kind: api.Write, Term: highest, Cmd: long}, true},
		{config(1, 1), true}, {config(highest, 31), true}, {config(7, 21), true},
		{api.Entry{Kind: -1, Term: 1}, false}, {api.Entry{Kind: 3, Term: 1}, false}, {api.Entry{Kind: 0x41, Term: 1}, false}, {api.Entry{Kind: math.MaxInt, Term: 1}, false}, {api.Entry{Kind: math.MinInt, Term: 1}, false}, {api.Entry{Kind: 256, Term: 1}, false},
		{write(0, ""), false}, {write(-1, ""), false}, {write(highest+1, ""), false}, {write(math.MaxInt64, ""), false}, {write(math.MinInt64, ""), false},
		{api.Entry{Kind: api.Write, Term: 1, Cmd: longer}, false}, {api.Entry{Kind: api.Noop, Term: 1, Cmd: longer}, false},
		{config(1, 0), false}, {config(1, 32), false}, {config(1, 255), false}, {config(0, 1), false},
		{api.Entry{Kind: api.Config, Term: 1}, false}, {api.Entry{Kind: api.Config, Term: 1, Cmd: []byte{1, 1}}, false}, {api.Entry{Kind: api.Config, Term: 1, Cmd: long}, false},
	}
}

// P9.2: entries that can be are behind the others, and those that cannot are refused, wherever they stand.
func TestWithOfEntries(t *testing.T) {
	for _, c := range entryCases() {
		g, e := newLog(t, 0, 0, 7).With(c.e)
		if (e == api.OK) != c.can || !c.can && (e != api.ErrArg || g != nil) {
			t.Error("With", c.e.Kind, c.e.Term, len(c.e.Cmd), e)
		}
		if c.can {
			shows(t, g, model{members: 7, l: []api.Entry{c.e}})
			continue
		}
		if g, e := newLog(t, 0, 0, 7).With(write(1, "a"), c.e, write(highest, "b")); e != api.ErrArg || g != nil {
			t.Error("With three", c.e.Kind, c.e.Term, len(c.e.Cmd), e)
		}
	}
}

// P9.2: terms do not fall, neither behind the floor nor among what is added.
func TestWithOfTerms(t *testing.T) {
	for _, c := range []struct {
		floor int64
		l, m  []int64
		want  api.Errno
	}{
		{3, nil, []int64{3}, api.OK}, {3, nil, []int64{4, 4, 9}, api.OK}, {3, []int64{5}, []int64{5}, api.OK}, {3, []int64{5}, []int64{6, 7}, api.OK},
		{3, nil, nil, api.OK}, {3, []int64{5}, nil, api.OK},
		{3, nil, []int64{2}, api.ErrArg}, {3, nil, []int64{4, 3}, api.ErrArg}, {3, []int64{5}, []int64{4}, api.ErrArg}, {3, []int64{5}, []int64{6, 5}, api.ErrArg}, {3, []int64{5}, []int64{5, 6, 4}, api.ErrArg},
	} {
		g := newLog(t, 10, c.floor, 7, writes(c.l...)...)
		h, e := g.With(writes(c.m...)...)
		if e != c.want || (h == nil) != (e != api.OK) {
			t.Error("With", c, e)
		}
		if e == api.OK {
			shows(t, h, model{10, c.floor, 7, append(writes(c.l...), writes(c.m...)...)})
		}
		shows(t, g, model{10, c.floor, 7, writes(c.l...)})
	}
}

// P9.2: 4096 entries go in, and one more does not, whatever it is.
func TestWithUpToTheLimit(t *testing.T) {
	all := slices.Repeat([]api.Entry{write(1, "")}, api.MaxLog)
	g := newLog(t, 4, 1, 7, all...)
	if at, term := g.Top(); at != 4+api.MaxLog || term != 1 {
		t.Error("Top", at, term)
	}
	if l := g.Slice(5, math.MaxInt); len(l) != api.MaxLog {
		t.Error("Slice", len(l))
	}
	for _, c := range []struct {
		have, more int
		want       api.Errno
	}{
		{0, 4096, api.OK}, {0, 4097, api.ErrFull}, {4095, 1, api.OK}, {4095, 2, api.ErrFull}, {4096, 0, api.OK}, {4096, 1, api.ErrFull}, {2000, 2096, api.OK}, {2000, 2097, api.ErrFull},
	} {
		h, e := newLog(t, 4, 1, 7, all[:c.have]...).With(slices.Repeat(all[:1], c.more)...)
		if e != c.want || (h == nil) != (e != api.OK) {
			t.Error("With", c, e)
		}
	}
	for _, bad := range []api.Entry{{Kind: 7, Term: 1}, {Kind: 0, Term: 0}} {
		if h, e := g.With(bad); h != nil || e != api.ErrFull {
			t.Error("full, and an entry that cannot be", e)
		}
	}
	// Places that are let go of give room.
	h, e := g.Over(5)
	ok(t, e)
	if h, e = h.With(write(2, "")); e != api.OK {
		t.Error("With behind Over", e)
	}
	if h, e = h.With(write(2, "")); h != nil || e != api.ErrFull {
		t.Error("With behind Over", e)
	}
}

// P9.2, P9.7: Upto and Over, at each place, and beside them.
func TestUptoAndOver(t *testing.T) {
	m := model{5, 2, 7, []api.Entry{write(2, "a"), config(3, 15), write(3, "b"), write(5, "c"), config(5, 7), write(9, "d")}}
	g := newLog(t, m.at, m.term, m.members, m.l...)
	for n := m.at; n <= m.top(); n++ {
		k := n - m.at
		h, e := g.Upto(n)
		ok(t, e)
		shows(t, h, model{m.at, m.term, m.members, m.l[:k]})
		h, e = g.Over(n)
		ok(t, e)
		shows(t, h, model{n, m.termAt(n), m.membersAt(n), m.l[k:]})
		for i := n; i <= m.top(); i++ {
			if h.Term(i) != g.Term(i) || h.Members(i) != g.Members(i) {
				t.Error("Over", n, "changed the place", i)
			}
		}
	}
	for _, n := range []int64{math.MinInt64, -1, 0, m.at - 1, m.top() + 1, highest, math.MaxInt64} {
		if h, e := g.Upto(n); h != nil || e != api.ErrArg {
			t.Error("Upto", n, e)
		}
		if h, e := g.Over(n); h != nil || e != api.ErrArg {
			t.Error("Over", n, e)
		}
	}
	shows(t, g, m)
}

// P9.2: what is cut away may be of elder terms than what comes in its place.
func TestWithBehindUpto(t *testing.T) {
	g := newLog(t, 0, 0, 7, writes(1, 5, 5)...)
	h, e := g.Upto(1)
	ok(t, e)
	h, e = h.With(writes(2, 3)...)
	ok(t, e)
	shows(t, h, model{members: 7, l: append(writes(1), writes(2, 3)...)})
	shows(t, g, model{members: 7, l: writes(1, 5, 5)})
}
