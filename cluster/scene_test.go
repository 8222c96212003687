package cluster_test

import (
	"bytes"
	"testing"

	"caisson/api"
	"caisson/cdb"
	"caisson/conn"
	"caisson/sense"
)

// told sends a command that is answered in the same step.
func (l *lab) told(on, at int, a ask) api.Reply {
	l.t.Helper()
	c := l.send(on, at, a)
	if !c.told {
		l.t.Fatalf("%x is not answered by %d", a.cdb, at)
	}
	return c.r
}

// The first example of the whole: what any machine answers, and what the others leave to who leads.
func TestAnyMachine(t *testing.T) {
	l := calmLab(t, confOf(3, 2, 8, 1))
	for at := range 3 {
		for _, c := range []cdb.Cdb{{Op: cdb.Inquiry, Len: 36}, {Op: cdb.ReadCapacity}, {Op: cdb.ReportLuns, Len: 24}} {
			if r := l.told(at, at, ask{cdb: build(c)}); r.Status != api.Good || len(r.Data) != cdb.In(c) {
				t.Error(at, c, r)
			}
		}
		states, e := sense.States(l.told(at, at, ask{cdb: build(cdb.Cdb{Op: cdb.Ports, Service: 10, Len: 200})}).Data)
		if e != api.OK || len(states) != 3 {
			t.Error(at, states)
		}
		for i, s := range states {
			if want := map[bool]int{true: sense.Active, false: sense.Standby}[i == l.lead()]; s != want {
				t.Error(at, states)
			}
		}
		if at == l.lead() {
			continue
		}
		for _, a := range []ask{read(1, 1), write(1, 1), unmap(1, 1), ready(), keys(0), reserve(6, 0, 0, 1)} {
			if r := l.told(at, at, a); !standing(r) {
				t.Errorf("%x: %+v", a.cdb, r)
			}
		}
	}
	for i := range 3 { // nothing of that was done
		if l.c.Node(i).State().Image(0).Used() != 0 || l.c.Node(i).Top() != l.c.Node(i).Info().Commit {
			t.Error(i)
		}
	}
}

// The second and the third one (P3): what was written is read, by another one, too, and behind a loss of all power that keeps nothing, all, or some.
func TestPower(t *testing.T) {
	for nodes := 1; nodes <= 5; nodes++ {
		for _, kept := range [][]int{nil, {-1, -1, -1}, {1, 2, 3, 4}} {
			l := calmLab(t, confOf(nodes, 1, 8, 1))
			l.good(1, write(5, 7))
			if b := l.good(2, read(5, 1)); !bytes.Equal(b, fill(7, 1)) {
				t.Fatalf("% x", b)
			}
			if b := l.good(2, read(4, 1)); !bytes.Equal(b, fill(0, 1)) {
				t.Fatalf("% x", b)
			}
			l.crash(1<<nodes-1, kept...)
			if l.c.Leader() != -1 {
				t.Fatal(l.c.Leader())
			}
			l.rounds(30)
			l.calm()
			if b := l.good(2, read(5, 1)); !bytes.Equal(b, fill(7, 1)) {
				t.Fatalf("% x", b)
			}
		}
	}
}

// The fourth one (P2): a leader that is cut off reads while nobody else can lead, and answers nothing behind that; clocks at their bound.
func TestCutOff(t *testing.T) {
	for rho := 1; rho <= 4; rho++ {
		for ahead := range 3 {
			l := calmLab(t, confOf(3, 1, 8, rho))
			l.good(1, write(5, 7))
			l.rounds(1)
			first := l.lead()
			l.cut(1 << first)
			within := 0
			for second := first; second == first; second = l.lead() {
				for i := range 3 { // one clock goes as far ahead of the others as it may
					if i == (first+ahead)%3 {
						l.ticks(i, rho)
					}
				}
				l.rounds(1)
				if l.lead() != first {
					break
				}
				if x := l.send(3, first, read(5, 1)); x.told && !bytes.Equal(x.r.Data, fill(7, 1)) {
					t.Fatal(x)
				} else if x.told {
					within++
				}
			}
			if within == 0 && ahead > 0 { // its own clock may take all of its lease
				t.Error(rho, ahead, "it has read nothing within its lease")
			}
			l.good(2, write(5, 8))
			x, y := l.send(4, first, read(5, 1)), l.send(4, first, write(5, 9))
			l.rounds(30)
			if x.told || y.told {
				t.Fatal(rho, ahead, x, y)
			}
			l.cut(0)
			l.rounds(3)
			if y.told || x.told && !standing(x.r) || l.c.Node(first).Stage(4) != 0 {
				t.Fatal(rho, ahead, x, y, l.c.Node(first).Stage(4))
			}
			l.calm()
			if b := l.good(2, read(5, 1)); !bytes.Equal(b, fill(8, 1)) {
				t.Fatalf("% x", b)
			}
			if !linear(l.conf, l.calls) {
				t.Fatal(rho, ahead)
			}
		}
	}
}

// The fifth and the sixth one (P4): whoever has lost its key writes nothing any more, until it registers again; also behind a change of leaders, and on each machine.
func TestFenced(t *testing.T) {
	l := calmLab(t, confOf(3, 1, 8, 1))
	l.good(1, reserve(0, 0, 0, 11))
	l.good(2, reserve(0, 0, 0, 22))
	l.good(1, reserve(1, 5, 11, 0))
	l.good(1, write(3, 1))
	l.good(2, reserve(4, 5, 22, 11))
	l.good(2, ready())
	asks := func(a ask) api.Reply {
		t.Helper()
		x := l.send(1, l.lead(), a)
		l.rounds(1)
		if !x.told {
			t.Fatalf("%x is not answered", a.cdb)
		}
		return x.r
	}
	if r := asks(write(3, 2)); r.Status != api.Check || r.Key != 6 || r.Asc != 0x2a || r.Ascq != 5 {
		t.Fatal(r)
	}
	for range 3 {
		for _, a := range []ask{write(3, 2), unmap(3, 1)} {
			if r := asks(a); r.Status != api.Conflict {
				t.Fatal(r)
			}
		}
		if r := asks(read(3, 1)); r.Status != api.Good || !bytes.Equal(r.Data, fill(1, 1)) {
			t.Fatal(r)
		}
		l.crash(1 << l.lead())
		l.rounds(30)
		l.calm()
	}
	asks(reserve(6, 0, 0, 12))
	if r := asks(write(3, 4)); r.Status != api.Good {
		t.Fatal(r)
	}
	if r := asks(read(3, 1)); !bytes.Equal(r.Data, fill(4, 1)) {
		t.Fatal(r)
	}
}

// A write that was proposed while its nexus had a key, and that is agreed on behind the taking away of it, changes nothing.
func TestFencedInTheLog(t *testing.T) {
	l := calmLab(t, confOf(3, 1, 8, 1))
	l.good(1, reserve(0, 0, 0, 11))
	l.good(2, reserve(0, 0, 0, 22))
	n := l.lead()
	x := l.send(2, n, reserve(4, 5, 22, 11)) // it takes the key away
	y, z := l.send(1, n, write(3, 7)), l.send(1, n, write(3, 7))
	if x.told || y.told || z.told || l.c.Node(n).Waits() != 3 {
		t.Fatal(x, y, z)
	}
	l.rounds(1)
	if !x.told || x.r.Status != api.Good || !y.told || y.r.Asc != 0x2a || !z.told || z.r.Status != api.Conflict {
		t.Fatal(x, y, z)
	}
	if b := l.good(2, read(3, 1)); !bytes.Equal(b, fill(0, 1)) {
		t.Fatalf("% x", b)
	}
}

// The tenth one (P5): a machine is away while many commands write; when it is there again it gets an image, and then has the same units.
func TestAway(t *testing.T) {
	for _, how := range []string{"cut off", "dead"} {
		l := calmLab(t, confOf(3, 2, 64, 1))
		away := (l.lead() + 1) % 3
		if how == "dead" {
			l.fail(away)
		} else {
			l.cut(1 << away)
		}
		for n := range 70 {
			a := write(n%64, byte(n+1))
			a.lun = n % 2
			l.good(1, a)
		}
		l.good(1, reserve(6, 0, 0, 5))
		top := l.c.Node(l.lead()).Top()
		if x := l.c.Node(away); x != nil && top-x.Top() < 60 || l.c.Up(away) != (how == "cut off") {
			t.Fatal(how, "it was not away")
		}
		l.cut(0)
		if how == "dead" {
			l.crash(1 << away)
		}
		l.rounds(30)
		l.calm()
		if l.c.Node(away).Applied() < top {
			t.Fatal(how, l.c.Node(away).Applied())
		}
		for range 30 {
			l.good(2, write(9, 9)) // and it goes on with it
		}
		l.rounds(1)
		l.calm()
	}
}

// P22.4: a machine that does not work sends nothing, and tells nothing; its clock goes on.
func TestDead(t *testing.T) {
	l := calmLab(t, confOf(3, 1, 8, 1))
	dead := (l.lead() + 1) % 3
	l.fail(dead)
	l.good(1, write(1, 1))
	if l.c.Up(dead) || l.c.Node(dead) != nil {
		t.Fatal("it works")
	}

	l = calmLab(t, confOf(3, 1, 8, 1))
	dead = l.lead()
	l.send(1, dead, read(1, 1))
	l.fail(dead)
	x := l.send(2, dead, write(1, 1))
	if x.told || l.c.Up(dead) || l.c.Flight() != 0 {
		t.Fatal(x, l.c.Flight())
	}
	was := l.c.Clock(dead)
	l.ticks(dead, 1)
	for on := range 16 {
		if got := l.c.Do(api.Event{Kind: api.EvBytes, Node: dead, N: on, B: l.loginBytes()}); len(got) != 0 {
			t.Fatal(got)
		}
	}
	l.step(api.Event{Kind: api.EvDraw, Node: dead, N: 5})
	if l.c.Clock(dead) != was+1 || l.c.Flight() != 0 {
		t.Fatal(l.c.Clock(dead), l.c.Flight())
	}
	l.rounds(40)
	l.calm()
	if l.lead() == dead || l.c.Up(dead) || x.told {
		t.Fatal(l.lead())
	}
	l.good(1, write(2, 2))
	l.crash(1 << dead)
	l.rounds(30)
	l.calm()
	if !l.c.Up(dead) || l.c.Node(dead).State().Image(0).Used() < 1 {
		t.Fatal("it works again")
	}
}

// A flush that fails on each machine, at each time while commands are done: the others go on, and so does it behind a crash, whatever was kept.
func TestFlushesFail(t *testing.T) {
	for i := range 3 {
		for _, kept := range [][]int{nil, {-1, -1, -1, -1}, {1}, {0, 1}, {0, 0, -1}} {
			l := calmLab(t, confOf(3, 1, 8, 1))
			for n := range 60 { // there are images among them
				if n%4 == 1 {
					l.fail(i)
				}
				want := fill(byte(n+1), 1)
				for { // whatever it takes
					for l.c.Leader() < 0 {
						l.rounds(1)
					}
					x := l.send(1, l.lead(), write(n%8, byte(n+1)))
					l.rounds(3)
					if x.told && x.r.Status == api.Good {
						break
					}
				}
				if n%3 == 0 && !l.c.Up(i) {
					l.crash(1<<i, kept...)
				}
				for l.c.Leader() < 0 {
					l.rounds(1)
				}
				x := l.send(2, l.lead(), read(n%8, 1))
				for !x.told {
					l.rounds(1)
				}
				if x.r.Status == api.Good && !bytes.Equal(x.r.Data, want) {
					t.Fatalf("%d: % x", n, x.r.Data[:1])
				}
				l.same()
			}
			l.crash(7, kept...)
			l.rounds(30)
			l.calm()
		}
	}
}

// Sessions are a machine's own: a connection has one with each, and a crash ends those of one.
func TestSessions(t *testing.T) {
	l := calmLab(t, confOf(3, 1, 8, 1))
	for at := range 3 {
		for on := range 16 {
			l.session(on, at)
		}
	}
	l.crash(2)
	for at := range 3 {
		for on := range 16 {
			if want := map[bool]int{true: 0, false: conn.Full}[at == 1]; l.c.Node(at).Stage(on) != want {
				t.Fatal(at, on, l.c.Node(at).Stage(on))
			}
		}
	}
	for _, on := range []int{-1, 16, 1 << 40} {
		if got := l.c.Do(api.Event{Kind: api.EvBytes, Node: 0, N: on, B: l.loginBytes()}); len(got) != 0 {
			t.Error(on, got)
		}
	}
}

// P22.6: clocks never differ by more than rho, whatever ticks; who is at the bound does not tick.
func TestClocks(t *testing.T) {
	for rho := 1; rho <= 4; rho++ {
		l := newLab(t, confOf(3, 1, 8, rho))
		l.ticks(1, 10)
		if l.c.Clock(1) != int64(rho) || l.c.Clock(0) != 0 {
			t.Fatal(rho, l.c.Clock(1))
		}
		l.rounds(1) // it may not tick till the others have
		if l.c.Clock(0) != 1 || l.c.Clock(1) != int64(rho) || l.c.Clock(2) != 1 {
			t.Fatal(rho, l.c.Clock(0), l.c.Clock(1), l.c.Clock(2))
		}
		l.crash(7)
		if l.c.Clock(1) != int64(rho) { // a clock goes on, whoever stops
			t.Fatal(l.c.Clock(1))
		}
	}
	// Where its clock may not tick, the machine does not either: it never asks.
	l := newLab(t, confOf(2, 1, 8, 1))
	l.ticks(0, 100)
	if l.c.Flight() != 0 || l.c.Clock(0) != 1 {
		t.Fatal(l.c.Flight(), l.c.Clock(0))
	}
}
