package lease_test

import (
	"math"
	"math/rand"
	"testing"

	"caisson/api"
	"caisson/lease"
	"caisson/world"
)

const (
	lastRound = int64(1) << 60
	lastTick  = int64(1) << 40
)

func newLease(t *testing.T, least, rho int) *lease.Lease {
	t.Helper()
	l, e := lease.New(least, rho)
	if e != api.OK || l == nil {
		t.Fatal("New", least, rho, e)
	}
	return l
}

func send(t *testing.T, l *lease.Lease, round, now int64) {
	t.Helper()
	if e := l.Sent(round, now); e != api.OK {
		t.Fatal("Sent", round, now, e)
	}
}

// P11.1: both numbers are from 1 to 1000.
func TestNewBounds(t *testing.T) {
	for n, can := range map[int]bool{
		math.MinInt: false, -1: false, 0: false, 1: true, 2: true, 999: true, 1000: true, 1001: false, math.MaxInt: false,
	} {
		for other, otherCan := range map[int]bool{1: true, 1000: true, 0: false, 1001: false, math.MinInt: false, math.MaxInt: false} {
			for _, c := range [][2]int{{n, other}, {other, n}} {
				l, e := lease.New(c[0], c[1])
				if can && otherCan {
					if e != api.OK || l == nil || l.Len() != 0 {
						t.Error("New", c, e)
					}
				} else if e != api.ErrArg || l != nil {
					t.Error("New", c, l, e)
				}
			}
		}
	}
}

// P11.1: the document's example.
func TestExample(t *testing.T) {
	l := newLease(t, 10, 2)
	send(t, l, 1, 5)
	if l.Until(1) != 11 || !l.Holds(1, 10) || l.Holds(1, 11) {
		t.Error(l.Until(1))
	}
	l = newLease(t, 10, 5)
	send(t, l, 1, 5)
	if l.Until(1) != 0 {
		t.Error(l.Until(1))
	}
}

// P11.1: of which nothing was sent, nothing holds.
func TestNothingSent(t *testing.T) {
	l := newLease(t, 1000, 1)
	for _, n := range []int64{math.MinInt64, -1, 0, 1, 5, lastRound, math.MaxInt64} {
		for _, now := range []int64{math.MinInt64, -1, 0, 1, 997, lastTick, math.MaxInt64} {
			if l.Until(n) != 0 || l.Holds(n, now) {
				t.Error(n, now, l.Until(n))
			}
		}
	}
}

// P11.1: rounds and times out of their bounds are refused ahead of their order, and change nothing.
func TestSentBounds(t *testing.T) {
	for _, c := range []struct {
		round, now int64
		want       api.Errno
	}{
		{math.MinInt64, 5, api.ErrArg}, {-1, 5, api.ErrArg}, {0, 5, api.ErrArg},
		{lastRound + 1, 5, api.ErrArg}, {math.MaxInt64, 5, api.ErrArg},
		{9, math.MinInt64, api.ErrArg}, {9, -1, api.ErrArg}, {9, lastTick + 1, api.ErrArg}, {9, math.MaxInt64, api.ErrArg},
		{1, -1, api.ErrArg}, {1, lastTick + 1, api.ErrArg}, {0, 0, api.ErrArg},
		{2, 5, api.ErrState}, {3, 5, api.ErrState}, {3, 9, api.ErrState}, {1, 9, api.ErrState}, {3, lastTick, api.ErrState},
		{4, 4, api.ErrState}, {4, 0, api.ErrState}, {lastRound, 0, api.ErrState},
		{4, 5, api.OK}, {4, 6, api.OK}, {lastRound, 5, api.OK}, {4, lastTick, api.OK}, {lastRound, lastTick, api.OK},
	} {
		l := newLease(t, 10, 2)
		send(t, l, 3, 5)
		if e := l.Sent(c.round, c.now); e != c.want {
			t.Error("Sent", c.round, c.now, e)
		}
		if c.want != api.OK && (l.Len() != 1 || l.Until(math.MaxInt64) != 11) {
			t.Error("a refused call changed something", c)
		}
		if c.want == api.OK && (l.Len() != 2 || l.Until(c.round) != c.now+6 || l.Until(c.round-1) != 11) {
			t.Error("Sent", c, l.Len(), l.Until(c.round))
		}
	}
	for _, c := range [][2]int64{{1, 0}, {lastRound, lastTick}} { // the first one is held against nothing
		l := newLease(t, 10, 2)
		send(t, l, c[0], c[1])
		if l.Until(c[0]) != c[1]+6 || l.Until(c[0]-1) != 0 {
			t.Error(c, l.Until(c[0]))
		}
	}
}

// P11.1: how long a round holds, of any least and rho.
func TestUntilByLeastAndRho(t *testing.T) {
	for _, c := range []struct {
		least, rho int
		span       int64
	}{
		{3, 1, 1}, {2, 1, 0}, {1, 1, 0}, {4, 1, 2}, {1000, 1, 998}, {1000, 499, 2}, {1000, 500, 0}, {999, 499, 1}, {1, 1000, 0}, {1000, 1000, 0},
	} {
		for _, at := range []int64{0, 1, 7, lastTick} {
			l := newLease(t, c.least, c.rho)
			send(t, l, 4, at)
			want := int64(0)
			if c.span > 0 {
				want = at + c.span
			}
			if l.Until(4) != want {
				t.Error(c, at, l.Until(4))
			}
			for now := at - 3; now < at+c.span+3; now++ {
				if l.Holds(4, now) != (now >= at && now < want) {
					t.Error(c, at, "at", now, l.Holds(4, now))
				}
			}
			for _, now := range []int64{math.MinInt64, -2000, math.MaxInt64} {
				if l.Holds(4, now) {
					t.Error(c, at, "at", now)
				}
			}
		}
	}
}

// P11.1: the last remembered round that is not above the one that is asked for counts, not a later one.
func TestUntilBetweenRounds(t *testing.T) {
	l := newLease(t, 10, 2)
	send(t, l, 3, 5)
	send(t, l, 7, 9)
	send(t, l, 8, 9)
	send(t, l, 20, 40)
	for _, c := range [][2]int64{ // a round, and the time of the one that counts
		{3, 5}, {4, 5}, {6, 5}, {7, 9}, {8, 9}, {9, 9}, {19, 9}, {20, 40}, {21, 40}, {lastRound, 40}, {lastRound + 1, 40}, {math.MaxInt64, 40},
	} {
		round, at := c[0], c[1]
		if l.Until(round) != at+6 {
			t.Error("Until", round, l.Until(round))
		}
		if l.Holds(round, at-1) || !l.Holds(round, at) || !l.Holds(round, at+5) || l.Holds(round, at+6) {
			t.Error("Holds", round)
		}
	}
	for _, round := range []int64{math.MinInt64, -1, 0, 1, 2} {
		if l.Until(round) != 0 || l.Holds(round, 5) || l.Holds(round, 0) || l.Holds(round, -1) {
			t.Error("Until", round, l.Until(round))
		}
	}
}

// P11.1: of more than 100 the first one is forgotten, and what was sent last stays.
func TestFirstIsForgotten(t *testing.T) {
	l := newLease(t, 10, 2)
	for i := int64(1); i <= 250; i++ {
		send(t, l, 2*i, 10*i)
		if n := min(i, lease.Most); int64(l.Len()) != n {
			t.Fatal("Len", i, l.Len())
		}
		first := max(1, i-lease.Most+1)
		if l.Until(2*first) != 10*first+6 || l.Until(2*first-1) != 0 || l.Holds(2*first-1, 10*first-5) {
			t.Fatal("the first one", i, l.Until(2*first), l.Until(2*first-1))
		}
		if l.Until(2*i) != 10*i+6 || !l.Holds(2*i, 10*i) {
			t.Fatal("the last one", i)
		}
		for _, elder := range []int64{2, 2 * i, 2*i - 1} {
			if e := l.Sent(elder, 10*i); e != api.ErrState {
				t.Fatal("Sent", elder, e)
			}
		}
	}
	if lease.Most != 100 {
		t.Error("Most", lease.Most)
	}
}

// P11.1: behind Reset nothing was sent, so that elder rounds and times go again.
func TestReset(t *testing.T) {
	l := newLease(t, 10, 2)
	l.Reset()
	for i := range int64(130) {
		send(t, l, i+50, i+70)
	}
	l.Reset()
	if l.Len() != 0 || l.Until(179) != 0 || l.Until(math.MaxInt64) != 0 || l.Holds(179, 199) {
		t.Error("Reset", l.Len(), l.Until(179))
	}
	send(t, l, 1, 0)
	if l.Len() != 1 || l.Until(179) != 6 || !l.Holds(1, 0) {
		t.Error("behind Reset", l.Len(), l.Until(179))
	}
}

// P11.1, P1: of nil.
func TestNilLease(t *testing.T) {
	var l *lease.Lease
	if e := l.Sent(1, 1); e != api.ErrNil {
		t.Error("Sent", e)
	}
	if e := l.Sent(-1, -1); e != api.ErrNil {
		t.Error("Sent", e)
	}
	l.Reset()
	if l.Until(1) != 0 || l.Holds(1, 1) || l.Holds(1, -1) || l.Len() != 0 {
		t.Error("of nil")
	}
}

// P1: a Lease that New has not made.
func TestZeroLease(t *testing.T) {
	var l lease.Lease
	send(t, &l, 1, 5)
	if l.Until(1) != 0 || l.Holds(1, 5) || l.Len() != 1 {
		t.Error("zero", l.Until(1))
	}
	l.Reset()
}

// rounds is a Lease by the plainest means: all that was sent, also what is forgotten.
type rounds struct {
	span int64
	all  [][2]int64
}

func (m *rounds) sent(round, now int64) api.Errno {
	if round < 1 || round > lastRound || now < 0 || now > lastTick {
		return api.ErrArg
	}
	if n := len(m.all); n > 0 && (round <= m.all[n-1][0] || now < m.all[n-1][1]) {
		return api.ErrState
	}
	m.all = append(m.all, [2]int64{round, now})
	return api.OK
}

func (m *rounds) remembered() [][2]int64 { return m.all[max(0, len(m.all)-100):] }

// counts is when the round was sent that counts for this one, and until when it holds; -1, if there is none.
func (m *rounds) counts(round int64) (int64, int64) {
	at := int64(-1)
	for _, x := range m.remembered() {
		if x[0] <= round {
			at = x[1]
		}
	}
	if at == -1 || m.span <= 0 {
		return at, 0
	}
	return at, at + m.span
}

// P11.1: any calls, one behind the other.
func TestLeaseAtRandom(t *testing.T) {
	refused, held := map[api.Errno]int{}, 0
	for seed := range int64(200) {
		rnd := rand.New(rand.NewSource(seed))
		least, rho := 1+rnd.Intn(30), 1+rnd.Intn(10)
		l, m := newLease(t, least, rho), rounds{span: int64(least - 2*rho)}
		round, now := int64(rnd.Intn(5)), int64(rnd.Intn(5))
		for range 300 {
			round += int64(rnd.Intn(5) - 1)
			now += int64(rnd.Intn(12) - 1)
			switch rnd.Intn(100) {
			case 0:
				l.Reset()
				m.all = nil
				round, now = int64(rnd.Intn(5)), int64(rnd.Intn(5))
			default:
				e, want := l.Sent(round, now), m.sent(round, now)
				if e != want {
					t.Fatal(seed, "Sent", round, now, e, want)
				}
				refused[e]++
			}
			if l.Len() != len(m.remembered()) {
				t.Fatal(seed, "Len", l.Len())
			}
			asked, at := round+2-int64(rnd.Intn(1+rnd.Intn(250))), now+int64(rnd.Intn(20))-10
			begin, end := m.counts(asked)
			if l.Until(asked) != end {
				t.Fatal(seed, "Until", asked, l.Until(asked), end)
			}
			holds := begin >= 0 && at >= begin && at < end
			if l.Holds(asked, at) != holds {
				t.Fatal(seed, "Holds", asked, at)
			}
			if holds {
				held++
			}
		}
	}
	for _, e := range []api.Errno{api.OK, api.ErrArg, api.ErrState} {
		if refused[e] < 50 {
			t.Error("too few of", e, refused[e])
		}
	}
	if held < 1000 {
		t.Error("too few hold", held)
	}
}

// hearing is a round that a replica has heard, by that replica's clock.
type hearing struct{ round, at int64 }

// P11.3: as long as a round holds by the leader's clock, whoever heard it has ticked fewer than least times since.
func TestAloneWhileItHolds(t *testing.T) {
	nearest, farthest := 0, 0
	for seed := range int64(300) {
		rnd := rand.New(rand.NewSource(seed))
		rho := 1 + rnd.Intn(4)
		least := 2*rho + 1 + rnd.Intn(12)
		w, e := world.New(3, rho)
		if e != api.OK {
			t.Fatal("New", e)
		}
		l := newLease(t, least, rho)
		var flying []int64
		heard := map[int]hearing{}
		fast := rnd.Intn(3)
		for round := int64(1); round < 400; {
			i := rnd.Intn(3)
			if rnd.Intn(3) == 0 {
				i = fast
			}
			switch rnd.Intn(8) {
			case 0:
				fast = rnd.Intn(3)
			case 1:
				send(t, l, round, w.Clock(0))
				flying = append(flying, round)
				round++
			case 2:
				if len(flying) > 0 {
					heard[1+rnd.Intn(2)] = hearing{flying[rnd.Intn(len(flying))], -1}
				}
			default:
				w.Tick(i) // it may be that it may not
			}
			for who, h := range heard {
				if h.at == -1 { // just now
					h.at = w.Clock(who)
					heard[who] = h
				}
				since := w.Clock(who) - h.at
				if l.Holds(h.round, w.Clock(0)) {
					if since >= int64(least) {
						t.Fatal(seed, "least", least, "rho", rho, "ticked", since)
					}
					if since == int64(least)-1 {
						nearest++
					}
				} else if l.Until(h.round) != 0 && w.Clock(0) == l.Until(h.round) && since == int64(least) {
					farthest++ // a tick later it could be too long
				}
			}
		}
	}
	if nearest == 0 || farthest == 0 {
		t.Error("never at the bound", nearest, farthest)
	}
}
