package node_test

import (
	"bytes"
	"slices"
	"testing"

	"caisson/api"
	"caisson/chunk"
	"caisson/conn"
	"caisson/pdu"
	"caisson/unit"
)

// hears lets those machines hear the round that was sent last, and nothing else of what was sent.
func (k *desk) hears(who ...int) {
	k.t.Helper()
	for _, m := range k.sent() {
		if m.Kind == api.Beat && slices.Contains(who, m.To) {
			k.agree(m)
		}
	}
}

// adds lets those machines take the entries that were sent, but hear no round.
func (k *desk) adds(who ...int) {
	k.t.Helper()
	for len(k.letters) > 0 {
		m := k.letters[0]
		k.letters = k.letters[1:]
		if m.Kind == api.Add && slices.Contains(who, m.To) {
			k.agree(m)
		}
	}
}

// bow tells the machine of a greater term.
func (k *desk) bow() {
	k.t.Helper()
	k.handle(api.Msg{Kind: api.Beat, From: 2, Term: k.x.Info().Term + 1, Round: 1})
}

// leader is the machine 0 of three, which leads.
func leader(t *testing.T, rho int) *desk {
	t.Helper()
	k := newDesk(t, 0, confOf(3, 2, 64, rho))
	k.leads(1)
	return k
}

// A command of the log is proposed with its number, is answered when it is agreed on, and not ahead of that.
func TestProposed(t *testing.T) {
	k := leader(t, 1)
	for n := range 3 {
		a := write(5, 2, byte(n+1))
		x := k.send(7, a)
		if x.told || k.x.Waits() != 1 || k.x.Top() != int64(n+2) || k.x.Applied() != int64(n+1) {
			t.Fatal("it was not agreed on", x.r, k.x.Waits())
		}
		l := k.sent()
		if len(l) != 2 || l[0].Kind != api.Add || l[1].Kind != api.Add || l[0].To != 1 || l[1].To != 2 {
			t.Fatalf("%+v", l)
		}
		e := l[0].L[len(l[0].L)-1]
		c, wrong := unit.Parse(e.Cmd)
		if e.Kind != api.Write || e.Term != 1 || wrong != api.OK || c.Kind != unit.Write || c.Nexus != 7 || c.Seq != 1<<20+int64(n)+1 || len(c.Changes) != 2 {
			t.Fatalf("%+v %+v", e, c)
		}
		k.agree(l[n%2])
		if !x.told || x.r.Status != api.Good || k.x.Waits() != 0 {
			t.Fatal(x)
		}
		k.letters = nil
	}
}

// The number of a command is of its term.
func TestNumbersOfAnotherTerm(t *testing.T) {
	k := leader(t, 1)
	k.send(1, write(1, 1, 1))
	k.peers(1)
	k.bow()
	k.sent()
	k.leads(1)
	term := k.x.Info().Term
	k.send(1, write(1, 1, 2))
	l := k.sent()
	c, _ := unit.Parse(l[0].L[len(l[0].L)-1].Cmd)
	if term < 3 || c.Seq != term<<20+1 {
		t.Error(term, c.Seq)
	}
}

// A read waits until an entry of the leader's term is agreed on, though its lease holds.
func TestReadWaitsForItsTerm(t *testing.T) {
	k := newDesk(t, 0, confOf(3, 1, 8, 1))
	for k.x.Info().Role != api.Leader {
		k.ticks(1)
		for _, m := range k.sent() {
			if m.Kind != api.Add && m.To == 1 {
				k.agree(m)
			}
		}
	}
	k.ticks(1)
	l := k.sent()
	for _, m := range l {
		if m.Kind == api.Beat && m.To == 1 {
			k.agree(m)
		}
	}
	x := k.send(3, read(0, 1))
	if i := k.x.Info(); x.told || i.Sure != 2 || i.Commit != 0 || k.x.Waits() != 1 {
		t.Fatal(x, i)
	}
	for _, m := range l {
		if m.Kind == api.Add && m.To == 1 {
			k.agree(m)
		}
	}
	if !x.told || x.r.Status != api.Good || !bytes.Equal(x.r.Data, fill(0, 1)) || k.x.Waits() != 0 {
		t.Fatal(x)
	}
}

// A round holds from its sending for 10 less twice rho of the leader's own ticks, and no longer; as soon as another one is sure, what waits is read.
func TestLease(t *testing.T) {
	for rho := 1; rho <= 4; rho++ {
		for ticks := range 12 {
			for _, late := range []bool{false, true} {
				k := leader(t, rho)
				k.ticks(1)
				sent := k.sent()
				if !late {
					k.letters = sent
					k.hears(1)
				}
				k.ticks(ticks)
				last := k.sent()
				if late { // it is heard late, and holds from its sending on all the same
					k.letters = sent
					k.hears(1)
				}
				x := k.send(3, read(0, 1))
				if holds := ticks < 10-2*rho; x.told != holds || k.x.Waits() == 0 != holds {
					t.Fatal(rho, ticks, late, x)
				}
				if x.told {
					continue
				}
				k.letters = last
				k.hears(1, 2)
				if !x.told || x.r.Status != api.Good {
					t.Fatal(rho, ticks, x)
				}
			}
		}
	}
}

// What was sent in another term tells nothing of this one: the rounds of a second reign hold by themselves.
func TestLeaseOfAnotherTerm(t *testing.T) {
	k := leader(t, 1)
	for range 40 {
		k.ticks(1)
		k.hears(1)
	}
	k.good(3, read(0, 1))
	k.bow()
	k.sent()
	k.leads(1)
	k.ticks(1)
	x := k.send(3, read(0, 1)) // nobody has heard the second round, but the first one, just now
	if i := k.x.Info(); !x.told || x.r.Status != api.Good || i.Sure != 1 {
		t.Fatal(x, i)
	}
}

// P2: a leader that is cut off reads within its lease, and answers nothing behind it; when it hears of another term, what waits is answered standing by.
func TestCutOff(t *testing.T) {
	k := leader(t, 2)
	k.send(3, write(1, 1, 7))
	k.peers(1)
	if b := k.good(3, read(1, 1)); !bytes.Equal(b, fill(7, 1)) {
		t.Fatal(b)
	}
	k.ticks(5)
	k.good(3, read(1, 1))
	k.ticks(1)
	x, y := k.send(3, read(1, 1)), k.send(4, keys(0, 100))
	k.ticks(100)
	if x.told || y.told || k.x.Waits() != 2 {
		t.Fatal(x, y)
	}
	k.bow()
	if !x.told || !standing(x.r) || !y.told || !standing(y.r) || k.x.Waits() != 0 {
		t.Fatal(x, y)
	}
	if k.x.Stage(3) != conn.Full || k.x.Stage(4) != conn.Full {
		t.Error("a session that has proposed nothing is gone")
	}
	if r := k.told(3, read(1, 1)); !standing(r) {
		t.Error(r)
	}
}

// Who leads no more gives the sessions up whose commands were proposed, without an answer; reads of these, too, are answered ahead of that.
func TestGivenUp(t *testing.T) {
	for _, how := range []api.Msg{
		{Kind: api.Beat, From: 2, Term: 9, Round: 1},
		{Kind: api.BeatTold, From: 1, Term: 9},
		{Kind: api.AddTold, From: 1, Term: 9},
		{Kind: api.Vote, From: 1, Term: 9, At: 100, AtTerm: 8},
	} {
		k := leader(t, 1)
		k.ticks(9)
		k.sent()
		a, b := k.send(1, write(1, 1, 7)), k.send(1, read(1, 1))
		c, d := k.send(2, read(1, 1)), k.send(3, ready())
		if a.told || b.told || c.told || d.told || k.x.Waits() != 4 {
			t.Fatal(a, b, c, d, k.x.Waits())
		}
		k.handle(how)
		if a.told || !b.told || !standing(b.r) || !c.told || !standing(c.r) || d.told {
			t.Fatal(how, a, b, c, d)
		}
		if k.x.Stage(1) != 0 || k.x.Stage(2) != conn.Full || k.x.Stage(3) != 0 || k.x.Waits() != 0 {
			t.Fatal(how, k.x.Stage(1), k.x.Stage(2), k.x.Stage(3), k.x.Waits())
		}
		if r := k.told(1, read(1, 1)); !standing(r) { // by a session that is new
			t.Error(r)
		}
	}
}

// What was proposed, and is agreed on under another leader, is done, and nobody is answered; a session of the same connection least of all.
func TestAgreedOnLater(t *testing.T) {
	k := leader(t, 1)
	x := k.send(1, write(1, 1, 7))
	e := k.sent()[0].L
	term := k.x.Info().Term
	k.bow()
	k.client(1)
	noop := api.Entry{Kind: api.Noop, Term: term + 1}
	k.handle(api.Msg{Kind: api.Add, From: 2, Term: term + 1, At: 1, AtTerm: term, L: append(e, noop), Commit: 3})
	if x.told || k.x.Applied() != 3 || len(k.clients[1].other) != 0 {
		t.Fatal(x, k.x.Applied())
	}
	if b, _ := k.x.State().Image(0).Read(1, 1); !bytes.Equal(b, fill(7, 1)) {
		t.Error("it was not done")
	}
}

// TaskFull, where 16 entries are not agreed on: it is neither proposed nor read. What needs neither is answered as ever.
func TestSixteenEntries(t *testing.T) {
	k := leader(t, 1)
	var l []*call
	for n := range 16 {
		l = append(l, k.send(n%3, write(n, 1, 1)))
	}
	top := k.x.Top()
	for _, a := range []ask{write(1, 1, 1), ready(), reserve(6, 0, 0, 1), unmap(), read(1, 1), keys(0, 9)} {
		if r := k.told(4, a); !is(r, api.TaskFull, 0, 0, 0) {
			t.Fatalf("%x: %+v", a.cdb, r)
		}
	}
	if r := k.told(4, write(1, 33, 1)); !wrong(r, 0x24) {
		t.Error(r)
	}
	if k.x.Top() != top || k.x.Waits() != 16 || top-k.x.Info().Commit != 16 {
		t.Fatal(k.x.Top(), k.x.Waits())
	}
	k.letters = k.letters[:1]
	k.peers(1) // the first one is agreed on
	if !l[0].told || l[0].r.Status != api.Good {
		t.Fatal(l[0])
	}
	x := k.send(4, write(20, 1, 1))
	k.peers(1)
	for _, x := range append(l, x) {
		if !x.told || x.r.Status != api.Good {
			t.Fatal(x)
		}
	}
	if k.x.Waits() != 0 {
		t.Error(k.x.Waits())
	}
}

// TaskFull, where 100 reads wait.
func TestHundredReads(t *testing.T) {
	k := leader(t, 1)
	k.ticks(9)
	k.sent()
	var l []*call
	for n := range 100 {
		l = append(l, k.send(n%5, read(n%64, 1)))
	}
	if k.x.Waits() != 100 {
		t.Fatal(k.x.Waits())
	}
	for _, a := range []ask{read(1, 1), keys(1, 9), write(1, 1, 1), ready()} {
		if r := k.told(6, a); !is(r, api.TaskFull, 0, 0, 0) {
			t.Fatalf("%x: %+v", a.cdb, r)
		}
	}
	k.ticks(1)
	k.hears(1)
	for _, x := range l {
		if !x.told || x.r.Status != api.Good {
			t.Fatal(x)
		}
	}
	k.good(6, read(1, 1))
}

// A session that is closed has nothing that waits, and what was read for others goes on.
func TestClosedSessionWaitsNoMore(t *testing.T) {
	k := leader(t, 1)
	k.ticks(9)
	k.sent()
	for range 25 {
		k.send(1, read(1, 1))
		k.send(2, read(1, 1))
	}
	x := k.send(1, write(1, 1, 7))
	if k.x.Waits() != 51 {
		t.Fatal(k.x.Waits())
	}
	other := k.clients[2].open[26-1]
	k.take(k.x.Bytes(1, bytes.Repeat([]byte{0xff}, 48)))
	if k.x.Stage(1) != conn.Closed || k.x.Waits() != 25 {
		t.Fatal(k.x.Stage(1), k.x.Waits())
	}
	k.client(1)
	for range 75 {
		k.send(3+k.x.Waits()%4, read(2, 1))
	}
	if k.x.Waits() != 100 {
		t.Fatal(k.x.Waits())
	}
	k.ticks(1)
	k.peers(1)
	if x.told || !other.told || k.x.Waits() != 0 || len(k.clients[1].other) != 0 {
		t.Error(x, other, k.x.Waits())
	}
}

// An aborted command is done all the same, if it is agreed on; nobody is answered.
func TestAborted(t *testing.T) {
	k := leader(t, 1)
	x := k.send(1, write(1, 1, 7))
	p := pdu.Pdu{Op: 2, Now: true, Flags: 0x81, Task: 99}
	p.W[0] = 1
	k.say(1, p)
	k.peers(1)
	if x.told || k.x.Waits() != 0 || k.x.State().Image(0).Used() != 1 {
		t.Error(x, k.x.Waits())
	}
	if l := k.clients[1].other; len(l) != 1 || l[0].Op != 34 || l[0].B2 != 0 {
		t.Error(l)
	}
}

// noted is a leader of which the nexus 1 is to be told by the unit 0 that its key was taken away; its lease is over, and nothing waits.
func noted(t *testing.T) *desk {
	t.Helper()
	k := leader(t, 1)
	for _, x := range []struct {
		on int
		a  ask
	}{{1, reserve(0, 0, 0, 11)}, {2, reserve(0, 0, 0, 22)}} {
		k.send(x.on, x.a)
		k.peers(1)
	}
	k.ticks(9)
	k.sent()
	return k
}

// A read whose note comes while it waits is told the note, by a Pop of the log; the next one is read.
func TestNoteComesWhileItWaits(t *testing.T) {
	k := noted(t)
	x, z := k.send(1, read(0, 1)), k.send(2, read(0, 1))
	y := k.send(2, reserve(4, 5, 22, 11)) // it preempts
	k.adds(1)
	if x.told || z.told || !y.told || y.r.Status != api.Good || k.x.Waits() != 2 {
		t.Fatal(x, y, z)
	}
	k.ticks(1)
	k.hears(1)
	if x.told || !z.told || z.r.Status != api.Good || k.x.Waits() != 1 { // it is a command of the log now
		t.Fatal(x, z)
	}
	c, _ := k.x.Info(), k.x.Top()
	if k.x.Top() != c.Commit+1 {
		t.Fatal("nothing was proposed")
	}
	k.ticks(1)
	k.adds(1)
	if !x.told || !is(x.r, api.Check, 6, 0x2a, 5) || k.x.Waits() != 0 {
		t.Fatal(x)
	}
	k.hears(1)
	if r := k.told(1, read(0, 1)); r.Status != api.Good {
		t.Error(r)
	}
}

// Two reads wait, and one note comes: the first one is told it, and the other one is read, as there is none any more.
func TestOneNoteForTwoReads(t *testing.T) {
	for _, a := range []ask{read(0, 2), keys(0, 100), keys(1, 100), keys(2, 100), read(60, 9), read(65535, 1), {cdb: []byte{0x88, 2: 1, 13: 1, 15: 0}}} {
		k := noted(t)
		x, y := k.send(1, a), k.send(1, a)
		k.send(2, reserve(4, 5, 22, 11))
		k.adds(1)
		k.ticks(1)
		k.peers(1)
		if !x.told || !is(x.r, api.Check, 6, 0x2a, 5) {
			t.Fatalf("%x: %+v", a.cdb, x)
		}
		m := newModel(k.conf)
		m.do(1, reserve(0, 0, 0, 11))
		m.do(2, reserve(0, 0, 0, 22))
		m.do(2, reserve(4, 5, 22, 11))
		m.do(1, ready())
		if !y.told || !sameReply(y.r, m.do(1, a)) {
			t.Fatalf("%x: %+v", a.cdb, y)
		}
	}
}

// A note of another unit, or for another nexus, plays no part.
func TestNotesOfOthers(t *testing.T) {
	k := noted(t)
	k.send(2, reserve(4, 5, 22, 11))
	k.peers(1)
	k.ticks(1)
	k.hears(1)
	a := read(0, 1)
	a.lun = 1
	top := k.x.Top()
	k.good(1, a)
	k.good(2, read(0, 1))
	k.good(3, read(0, 1))
	if k.x.Top() != top {
		t.Error("something was proposed")
	}
	x := k.send(1, read(0, 1))
	k.peers(1)
	if !x.told || !is(x.r, api.Check, 6, 0x2a, 5) {
		t.Error(x)
	}
}

// A read whose note came, where 16 entries are not agreed on by then.
func TestNoteAndNoRoom(t *testing.T) {
	k := noted(t)
	x := k.send(1, read(0, 1))
	k.send(2, reserve(4, 5, 22, 11))
	k.adds(1)
	for n := range 16 {
		k.send(3, write(n, 1, 1))
	}
	k.sent()
	k.ticks(1)
	k.hears(1)
	if !x.told || !is(x.r, api.TaskFull, 0, 0, 0) {
		t.Error(x)
	}
}

// away writes so many commands, of which the machine 2 hears nothing.
func (k *desk) away(n int) {
	k.t.Helper()
	for i := range n {
		if x := k.send(1, write(i%64, 1, byte(i+1))); !x.told {
			k.peers(1)
		}
	}
}

// Who lacks entries below the floor gets the image, in pieces, with each tick, until it tells that it has it.
func TestImageIsSent(t *testing.T) {
	k := leader(t, 1)
	k.away(22)
	k.handle(api.Msg{Kind: api.AddTold, From: 2, Term: 1, At: 0})
	if l := k.sent(); len(l) != 1 || l[0].Kind != api.Add || len(l[0].L) != 16 || l[0].L[0].Kind != api.Noop {
		t.Fatal("its log has all entries yet", l)
	}
	k.away(1)
	state := k.x.State().Bytes() // of 24 entries
	k.away(5)
	for range 3 {
		k.ticks(1)
		var pieces [][]byte
		for _, m := range k.sent() {
			if m.To != 2 {
				continue
			}
			if m.Kind == api.Add {
				t.Fatal("entries", m)
			}
			if m.Kind == api.Part {
				if m.At != 24 || m.AtTerm != 1 || m.Commit != 7 || m.Term != 1 {
					t.Fatal(m.At, m.AtTerm, m.Commit)
				}
				pieces = append(pieces, m.Data)
			}
		}
		if b, e := chunk.Join(pieces); e != api.OK || !bytes.Equal(b, state) {
			t.Fatal(len(pieces), e)
		}
	}
	k.handle(api.Msg{Kind: api.AddTold, From: 2, Term: 1, At: 24, Yes: true})
	if l := k.sent(); len(l) != 1 || l[0].Kind != api.Add || l[0].At != 24 || len(l[0].L) != 5 {
		t.Fatalf("%+v", l)
	}
	k.ticks(1)
	for _, m := range k.sent() {
		if m.Kind == api.Part {
			t.Fatal("it has the image")
		}
	}
}

// Who refuses what it is sent, as it has more agreed on, is asked by a part up to where that is: else both would go on for ever.
func TestLift(t *testing.T) {
	k := leader(t, 1)
	k.away(20)
	k.handle(api.Msg{Kind: api.AddTold, From: 2, Term: 1, At: 0}) // told of a letter of an elder term
	if l := k.sent(); len(l) != 1 || l[0].Kind != api.Add || l[0].At != 0 {
		t.Fatalf("%+v", l)
	}
	k.handle(api.Msg{Kind: api.AddTold, From: 2, Term: 1, At: 18}) // its floor is there
	l := k.sent()
	if len(l) != 2 || l[0].Kind != api.Add || l[0].At != 0 || l[1].Kind != api.Part || l[1].To != 2 || l[1].At != 0 {
		t.Fatalf("%+v", l)
	}
	other := newDesk(t, 2, k.conf) // as one has it whose floor is above 0
	other.handle(api.Msg{Kind: api.Add, From: 0, Term: 1, L: slices.Repeat([]api.Entry{{Kind: api.Noop, Term: 1}}, 16), Commit: 16})
	other.sent()
	other.handle(l[1])
	if l := other.sent(); len(l) != 1 || l[0].Kind != api.AddTold || !l[0].Yes || l[0].At != 16 {
		t.Fatalf("%+v", l)
	}
	k.handle(api.Msg{Kind: api.AddTold, From: 2, Term: 1, At: 16, Yes: true})
	if l := k.sent(); len(l) != 1 || l[0].Kind != api.Add || l[0].At != 16 || len(l[0].L) != 5 {
		t.Fatalf("%+v", l)
	}
}

// to hands those letters of k on that go to o, and lets go of the others.
func (k *desk) to(o *desk) {
	k.t.Helper()
	for _, m := range k.sent() {
		if m.To == o.me {
			o.handle(m)
		}
	}
}

// P8: a leader that knows nothing of what the other one has, whose floor is far above what it is sent, is told so, and both go on.
func TestGoesOnAboveAFloor(t *testing.T) {
	c := confOf(3, 1, 64, 1)
	a, b, z := newDesk(t, 0, c), newDesk(t, 1, c), newDesk(t, 2, c)
	for range 10 {
		a.ticks(1)
		b.ticks(1)
	}
	pump(a, b, z)
	a.ticks(1)
	late := api.Msg{Kind: api.Add, From: 0, Term: 1, L: []api.Entry{{Kind: api.Noop, Term: 1}}} // it is on its way for long
	a.sent()
	if a.x.Info().Role != api.Leader {
		t.Fatal(a.x.Info())
	}
	b.ticks(10)
	b.sent()
	a.bow()
	a.sent()
	for range 40 {
		z.ticks(1)
		pump(b, z)
	}
	pump(a, b, z)
	if i := z.x.Info(); i.Role != api.Leader || i.Commit != z.x.Top() {
		t.Fatal(i)
	}
	for z.x.Top() < 11 {
		z.send(1, write(1, 1, 1))
		pump(a, b, z)
	}
	z.ticks(1)
	pump(a, b, z)
	for n := range 16 { // the machine 0 has them all, but does not know that they are agreed on; the machine 1 knows, and lacks the last one
		z.send(2, write(n, 1, 1))
		for _, m := range z.sent() {
			switch {
			case m.To == 0:
				a.handle(m)
			case n < 15:
				b.handle(m)
			}
		}
	}
	a.sent()
	b.to(z)
	z.ticks(1)
	for _, m := range z.sent() {
		if m.To == 1 && m.Kind == api.Beat {
			b.handle(m)
		}
	}
	b.sent()
	if a.x.Top() != 27 || a.x.Applied() != 11 || b.x.Top() != 26 || b.x.Applied() != 26 {
		t.Fatal(a.x.Top(), a.x.Applied(), b.x.Top(), b.x.Applied())
	}
	for range 30 { // now the machine 2 is gone
		b.ticks(1)
		b.sent()
	}
	for a.x.Info().Role != api.Leader {
		a.ticks(1)
		a.to(b)
		b.to(a)
	}
	late.To = 1
	b.handle(late) // it is told in the new term that it is refused, ahead of all else
	b.to(a)
	for range 200 {
		a.to(b)
		b.to(a)
	}
	if i := a.x.Info(); i.Commit != 28 || b.x.Top() != 28 {
		t.Fatal("they go on for ever", i, b.x.Top())
	}
}
