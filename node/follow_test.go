package node_test

import (
	"bytes"
	"math/rand"
	"slices"
	"testing"

	"caisson/api"
	"caisson/chunk"
	"caisson/conn"
	"caisson/entries"
	"caisson/node"
	"caisson/unit"
)

// P21.1: bytes that are no message, or are not From that machine, do nothing.
func TestHandleRefuses(t *testing.T) {
	k := newDesk(t, 1, confOf(3, 1, 8, 1))
	m := api.Msg{Kind: api.Beat, From: 0, To: 1, Term: 5, Round: 1}
	b, _ := entries.PackMsg(m)
	was := k.x.Info()
	for _, from := range append([]int{1, 2, 3, 4}, edges...) {
		if l := k.x.Handle(from, b); from != 0 && (len(l) != 0 || k.x.Info() != was) {
			t.Fatal(from, l)
		}
		if from == 0 {
			k = newDesk(t, 1, k.conf)
		}
	}
	for i := range b {
		c := slices.Clone(b)
		c[i] ^= 1
		if l := k.x.Handle(0, c); len(l) != 0 || k.x.Info() != was {
			t.Fatal(i, l)
		}
		if l := k.x.Handle(0, b[:i]); len(l) != 0 || k.x.Info() != was {
			t.Fatal(i, l)
		}
	}
	for _, c := range [][]byte{nil, {}, append(slices.Clone(b), 0), make([]byte, 65537)} {
		if l := k.x.Handle(0, c); len(l) != 0 || k.x.Info() != was {
			t.Fatal(len(c), l)
		}
	}
	if l := k.x.Handle(0, b); len(l) != 1 || k.x.Info().Term != 5 || k.x.Info().Leader != 0 {
		t.Fatal(l, k.x.Info())
	}
}

// voteOf tells whether the machine agrees to who asks for its vote.
func (k *desk) voteOf(from int, term int64) bool {
	k.t.Helper()
	k.handle(api.Msg{Kind: api.Vote, From: from, Term: term, At: 1 << 30, AtTerm: 1 << 30})
	for _, m := range k.sent() {
		if m.Kind == api.VoteTold && m.Yes && m.To == from {
			return true
		}
	}
	return false
}

// P21.5: a vote is safe ahead of its telling, and stands behind a crash that keeps nothing.
func TestVoteIsSafe(t *testing.T) {
	k := newDesk(t, 1, confOf(5, 1, 8, 1))
	k.ticks(10)
	k.sent()
	if !k.voteOf(0, 7) || k.voteOf(2, 7) || !k.voteOf(0, 7) {
		t.Fatal("its vote")
	}
	k.crash()
	if i := k.x.Info(); i.Term != 7 || i.Voted != 0 {
		t.Fatal(i)
	}
	k.ticks(10)
	if k.voteOf(2, 7) || k.voteOf(3, 7) || !k.voteOf(0, 7) {
		t.Fatal("its vote behind a crash")
	}
	k.disk.Fail()
	if k.voteOf(2, 8) || !k.x.Dead() {
		t.Fatal("a vote that is not safe was told")
	}
	k.crash()
	k.ticks(10)
	if k.x.Info().Term != 7 || !k.voteOf(3, 8) || k.voteOf(2, 8) {
		t.Fatal("its vote behind a flush that failed", k.x.Info())
	}
	k.disk.Fail()
	if k.voteOf(2, 9) {
		t.Fatal("a vote that is not safe was told")
	}
	k.crash(-1) // it was kept by chance
	k.ticks(10)
	if i := k.x.Info(); i.Term != 9 || i.Voted != 2 || k.voteOf(0, 9) || !k.voteOf(2, 9) {
		t.Fatal(i)
	}
}

// P21.5: so is one in a term that was known already.
func TestVoteInAKnownTerm(t *testing.T) {
	k := newDesk(t, 1, confOf(5, 1, 8, 1))
	k.handle(api.Msg{Kind: api.BeatTold, From: 3, Term: 7})
	if i := k.x.Info(); i.Term != 7 || i.Voted != -1 {
		t.Fatal(i)
	}
	k.ticks(10)
	if !k.voteOf(0, 7) {
		t.Fatal("its vote")
	}
	k.crash()
	k.ticks(10)
	if i := k.x.Info(); i.Term != 7 || i.Voted != 0 || k.voteOf(2, 7) {
		t.Fatal("its vote behind a crash", i)
	}
}

// P21.5: nobody votes for two in one term, whoever asks, and whatever disk crashes.
func TestVotesAtRandom(t *testing.T) {
	told := 0
	for seed := range int64(40) {
		r := rand.New(rand.NewSource(seed))
		me := r.Intn(5)
		k := newDesk(t, me, confOf(5, 1, 8, 1))
		votes := map[int64]int{}
		vote := func(term int64, to int) {
			if other, ok := votes[term]; ok && other != to {
				t.Fatalf("seed %d: %d and %d in the term %d", seed, other, to, term)
			}
			votes[term] = to
			told++
		}
		for range 300 {
			from := (me + 1 + r.Intn(4)) % 5
			term := k.x.Info().Term + int64(r.Intn(3)) - 1
			switch r.Intn(6) {
			case 0:
				k.ticks(r.Intn(15))
			case 1:
				k.disk.Fail()
			case 2:
				k.crash(r.Intn(1<<16), r.Intn(1<<16), r.Intn(1<<16))
			case 3:
				for _, m := range k.sent() {
					k.agree(m) // so that it asks for votes itself
				}
			default:
				if term >= 1 {
					k.handle(api.Msg{Kind: api.Vote, From: from, Term: term, At: k.x.Top() + 1, AtTerm: term})
				}
			}
			for _, m := range k.letters {
				switch {
				case m.Kind == api.VoteTold && m.Yes:
					vote(m.Term, m.To)
				case m.Kind == api.Vote:
					vote(m.Term, me)
				}
			}
			k.letters = slices.DeleteFunc(k.letters, func(m api.Msg) bool { return m.Kind == api.VoteTold })
			if k.x.Dead() {
				k.crash(r.Intn(1<<16), r.Intn(1<<16))
			}
		}
	}
	if told < 500 {
		t.Error("few votes", told)
	}
}

// What is not safe is not sent, and a machine that is dead sends nothing and does nothing any more.
func TestDeadMachine(t *testing.T) {
	k := leader(t, 1)
	k.client(2)
	k.disk.Fail()
	x := k.send(2, write(1, 1, 7))
	if x.told || !k.x.Dead() || len(k.sent()) != 0 {
		t.Fatal(x, k.x.Dead())
	}
	was, top := k.x.Info(), k.x.Top()
	for range 40 {
		if len(k.x.Tick()) != 0 {
			t.Fatal("a dead machine ticks")
		}
		k.x.Draw(3)
	}
	k.agree(api.Msg{Kind: api.Add, To: 1, Term: 1, At: 1, L: make([]api.Entry, 1)})
	k.bow()
	if len(k.letters) != 0 || len(k.x.Bytes(2, put(login()))) != 0 || len(k.x.Bytes(9, put(login()))) != 0 {
		t.Fatal("a dead machine speaks")
	}
	if !k.x.Dead() || k.x.Info() != was || k.x.Top() != top || k.x.Applied() != 1 || x.told {
		t.Fatal(k.x.Info(), k.x.Applied())
	}
	k.crash()
	if k.x.Dead() || k.x.Top() != 1 {
		t.Fatal(k.x.Top())
	}
}

// Entries are safe ahead of being told, on a follower.
func TestEntriesAreSafe(t *testing.T) {
	l := []api.Entry{{Kind: api.Noop, Term: 1}, {Kind: api.Write, Term: 1, Cmd: []byte("no command")}}
	k := newDesk(t, 1, confOf(3, 1, 8, 1))
	k.handle(api.Msg{Kind: api.Add, From: 0, Term: 1, L: l})
	if m := k.sent(); len(m) != 1 || !m[0].Yes || m[0].At != 2 {
		t.Fatal(m)
	}
	k.crash()
	if k.x.Top() != 2 || k.x.Info().Term != 1 || k.x.Applied() != 0 {
		t.Fatal(k.x.Top(), k.x.Info())
	}
	k.disk.Fail()
	k.handle(api.Msg{Kind: api.Add, From: 0, Term: 1, At: 2, AtTerm: 1, L: l})
	if m := k.sent(); len(m) != 0 || !k.x.Dead() {
		t.Fatal(m)
	}
	k.crash()
	if k.x.Top() != 2 {
		t.Fatal(k.x.Top())
	}
	// Others of another term take the place of those that were not agreed on.
	k.handle(api.Msg{Kind: api.Add, From: 2, Term: 3, At: 1, AtTerm: 1, L: []api.Entry{{Kind: api.Noop, Term: 3}}, Commit: 2})
	if m := k.sent(); len(m) != 1 || !m[0].Yes || m[0].At != 2 || k.x.Applied() != 2 {
		t.Fatal(m, k.x.Applied())
	}
	k.crash()
	k.handle(api.Msg{Kind: api.Add, From: 2, Term: 3, At: 2, AtTerm: 3})
	if m := k.sent(); len(m) != 1 || !m[0].Yes {
		t.Fatal("the entry of the term 3 is not there", m)
	}
}

// command is an entry of a command.
func command(term, seq int64, nexus int, a ask, c node.Conf) api.Entry {
	x, _, _ := node.Cmd(c, a.lun, a.cdb, a.data)
	x.Nexus, x.Seq = nexus, seq
	b, e := unit.Bytes(x)
	if e != api.OK {
		panic(e)
	}
	return api.Entry{Kind: api.Write, Term: term, Cmd: b}
}

// history is n entries, those of commands and others, of terms that do not fall.
func history(r *rand.Rand, n int, c node.Conf) []api.Entry {
	var l []api.Entry
	term := int64(1)
	for i := range n {
		term += int64(r.Intn(20) / 19)
		switch k := r.Intn(20); {
		case k == 0:
			l = append(l, api.Entry{Kind: api.Noop, Term: term})
		case k == 1:
			l = append(l, api.Entry{Kind: api.Write, Term: term, Cmd: []byte("no command")})
		case k == 2:
			l = append(l, api.Entry{Kind: api.Config, Term: term, Cmd: []byte{byte(c.Nodes)<<1 - 1}})
		default:
			a := ready()
			for {
				a = anyAsk(r, c.Units, c.Blocks)
				if _, ok, r := node.Cmd(c, a.lun, a.cdb, a.data); ok && r.Status == api.Good {
					break
				}
			}
			l = append(l, command(term, int64(i+1), r.Intn(16), a, c))
		}
	}
	return l
}

// P21.4 (P5): machines that have done as much of a log have the same state, whether by entries, in whatever portions, by images, or behind crashes.
func TestSameState(t *testing.T) {
	for seed := range int64(30) {
		r := rand.New(rand.NewSource(seed))
		c := confOf(3, 1+r.Intn(3), 1+r.Intn(64), 1)
		l := history(r, 120, c)
		s, _ := unit.New(c.Units, c.Blocks)
		k := newDesk(t, 1, c)
		at, done := 0, 0
		for at < len(l) {
			n := min(r.Intn(17), len(l)-at)
			m := api.Msg{Kind: api.Add, From: 0, Term: 100, At: int64(at), L: l[at : at+n], Commit: int64(at + r.Intn(n+1))}
			if at > 0 {
				m.AtTerm = l[at-1].Term
			}
			k.handle(m)
			if r.Intn(6) == 0 {
				k.disk.Fail()
			}
			if k.x.Dead() || r.Intn(10) == 0 {
				k.crash(r.Intn(1<<16), r.Intn(1<<16), r.Intn(1<<16), r.Intn(1<<16), r.Intn(1<<16), r.Intn(1<<16))
			}
			if int(k.x.Applied()) < done && s != nil {
				done = 0
				s, _ = unit.New(c.Units, c.Blocks)
			}
			for ; done < int(k.x.Applied()); done++ {
				if x, e := unit.Parse(l[done].Cmd); l[done].Kind == api.Write && e == api.OK {
					s.Do(x)
				}
			}
			if !bytes.Equal(k.x.State().Bytes(), s.Bytes()) {
				t.Fatalf("seed %d: another state at %d", seed, done)
			}
			if k.x.Top() >= int64(at+n) {
				at += n
			}
		}
		if len(l) != 120 || k.x.Top() != 120 {
			t.Fatal(seed, k.x.Top())
		}
	}
}

// parts is an image of the state behind those entries, in pieces of that size or, if there would be too many, greater ones.
func parts(t *testing.T, c node.Conf, l []api.Entry, term int64, size int) ([]api.Msg, []byte) {
	t.Helper()
	s, _ := unit.New(c.Units, c.Blocks)
	for _, e := range l {
		if x, wrong := unit.Parse(e.Cmd); e.Kind == api.Write && wrong == api.OK {
			s.Do(x)
		}
	}
	b := s.Bytes()
	pieces, e := chunk.Split(int64(len(l)), b, max(size, len(b)/200+1))
	if e != api.OK {
		t.Fatal(e)
	}
	var out []api.Msg
	for _, p := range pieces {
		out = append(out, api.Msg{Kind: api.Part, From: 0, Term: term, At: int64(len(l)), AtTerm: l[len(l)-1].Term, Commit: int64(1)<<c.Nodes - 1, Data: p})
	}
	return out, b
}

// P21.4: an image that comes in pieces, in any order, some of them twice, also behind a crash in between, is the state; the log goes on behind it.
func TestImageComes(t *testing.T) {
	for seed := range int64(40) {
		r := rand.New(rand.NewSource(seed))
		c := confOf(3, 1+r.Intn(3), 1+r.Intn(64), 1)
		l := history(r, 80, c)
		k := newDesk(t, 1, c)
		have := r.Intn(40)
		for at := 0; at < have; at += 16 { // some of it is there, agreed on or not
			m := api.Msg{Kind: api.Add, From: 0, Term: 50, At: int64(at), L: l[at:min(at+16, have)], Commit: int64(r.Intn(have + 1))}
			if at > 0 {
				m.AtTerm = l[at-1].Term
			}
			k.handle(m)
		}
		k.sent()
		msgs, want := parts(t, c, l[:60], 50, 1+r.Intn(4096))
		r.Shuffle(len(msgs), func(i, j int) { msgs[i], msgs[j] = msgs[j], msgs[i] })
		if r.Intn(2) == 0 { // a crash lets go of what was gathered
			for _, m := range msgs[:len(msgs)/2] {
				k.handle(m)
			}
			k.crash()
		}
		for i, m := range msgs {
			k.handle(m)
			if i > 0 && r.Intn(3) == 0 {
				k.handle(msgs[r.Intn(i)])
			}
		}
		told := k.sent()
		if k.x.Applied() != 60 || k.x.Top() != 60 || !bytes.Equal(k.x.State().Bytes(), want) {
			t.Fatal(seed, k.x.Applied(), k.x.Top())
		}
		if !slices.ContainsFunc(told, func(m api.Msg) bool { return m.Kind == api.AddTold && m.Yes && m.At == 60 }) {
			t.Fatal(seed, told)
		}
		if r.Intn(2) == 0 {
			k.crash()
			if k.x.Applied() != 60 || !bytes.Equal(k.x.State().Bytes(), want) {
				t.Fatal(seed, "behind a crash", k.x.Applied())
			}
		}
		k.handle(api.Msg{Kind: api.Add, From: 0, Term: 50, At: 60, AtTerm: l[59].Term, L: l[60:76], Commit: 76})
		k.handle(api.Msg{Kind: api.Add, From: 0, Term: 50, At: 76, AtTerm: l[75].Term, L: l[76:], Commit: 80})
		_, want = parts(t, c, l, 50, 4096)
		for range 2 {
			if k.x.Applied() < 60 || k.x.Applied() == 80 && !bytes.Equal(k.x.State().Bytes(), want) {
				t.Fatal(seed, k.x.Applied())
			}
			k.crash()
			k.handle(api.Msg{Kind: api.Beat, From: 0, Term: 50, Commit: 80, Round: 9})
		}
		if k.x.Applied() != 80 {
			t.Fatal(seed, k.x.Applied())
		}
	}
}

// An image keeps what the log has above it, if it has its last entry; else the log begins anew.
func TestImageBelowTheTop(t *testing.T) {
	c := confOf(3, 1, 8, 1)
	l := history(rand.New(rand.NewSource(1)), 40, c)
	for _, other := range []bool{false, true} {
		k := newDesk(t, 1, c)
		had := slices.Clone(l[:30])
		if other {
			for i := 20; i < 30; i++ { // what it has there is of a term that nobody else knows
				had[i].Term = 49
			}
		}
		for at := 0; at < 30; at += 15 {
			m := api.Msg{Kind: api.Add, From: 0, Term: 49, At: int64(at), L: had[at : at+15]}
			if at > 0 {
				m.AtTerm = had[at-1].Term
			}
			k.handle(m)
		}
		msgs, want := parts(t, c, l[:25], 50, 4096)
		k.sent()
		for _, m := range msgs {
			k.handle(m)
		}
		top := int64(30)
		if other {
			top = 25
		}
		for range 3 { // also behind crashes
			if k.x.Top() != top || k.x.Applied() < 25 || k.x.Applied() == 25 && !bytes.Equal(k.x.State().Bytes(), want) {
				t.Fatal(other, k.x.Top(), k.x.Applied())
			}
			k.crash()
		}
	}
}

// Parts that are of no image, of another conf's, or of one that is not above what is agreed on, do nothing.
func TestPartsThatCanNotBe(t *testing.T) {
	c := confOf(3, 2, 8, 1)
	l := history(rand.New(rand.NewSource(1)), 40, c)
	msgs, _ := parts(t, c, l, 50, 4096)
	right := msgs[0]
	if len(msgs) != 1 {
		t.Fatal(len(msgs))
	}
	small, _ := parts(t, confOf(3, 1, 8, 1), l, 50, 4096)
	greater, _ := parts(t, confOf(3, 2, 9, 1), l, 50, 4096)
	junk, _ := chunk.Split(40, []byte("no state"), 4096)
	for i, f := range []func(m *api.Msg){
		func(m *api.Msg) { m.Data = nil },
		func(m *api.Msg) { m.Data = m.Data[:len(m.Data)-1] },
		func(m *api.Msg) { m.Data = junk[0] },
		func(m *api.Msg) { m.Data = small[0].Data },
		func(m *api.Msg) { m.Data = greater[0].Data },
		func(m *api.Msg) { m.At = 39 },
		func(m *api.Msg) { m.At = 41 },
		func(m *api.Msg) { m.AtTerm = 0 },
		func(m *api.Msg) { m.AtTerm = 51 },
		func(m *api.Msg) { m.Commit = 0 },
		func(m *api.Msg) { m.Commit = 32 },
		func(m *api.Msg) { m.Term = 0 },
	} {
		k := newDesk(t, 1, c)
		m := right
		f(&m)
		k.handle(m)
		if k.x.Applied() != 0 || k.x.Top() != 0 || k.x.Dead() || len(k.sent()) != 0 {
			t.Fatal(i, k.x.Applied())
		}
		k.handle(right) // and the right one is taken all the same
		if k.x.Applied() != 40 {
			t.Fatal(i, k.x.Applied())
		}
		k.sent()
		k.handle(right)
		if m := k.sent(); k.x.Applied() != 40 || len(m) != 1 || !m[0].Yes || m[0].At != 40 {
			t.Fatal(i, m)
		}
	}
}

// Pieces of an image that another leader sends are gathered anew: one that is gone may have sent only some.
func TestImageOfAnotherLeader(t *testing.T) {
	c := confOf(3, 3, 64, 1)
	l := history(rand.New(rand.NewSource(3)), 60, c)
	one, _ := parts(t, c, l[:50], 50, 200)
	two, want := parts(t, c, l[:40], 51, 300)
	k := newDesk(t, 1, c)
	for _, m := range one[1:] {
		k.handle(m)
	}
	for _, m := range two {
		m.From = 2
		k.handle(m)
	}
	if k.x.Applied() != 40 || !bytes.Equal(k.x.State().Bytes(), want) {
		t.Fatal(k.x.Applied())
	}
}

// pump hands all letters on between machines, till there are none.
func pump(l ...*desk) {
	for again := true; again; {
		again = false
		for _, k := range l {
			for _, m := range k.sent() {
				again = true
				for _, o := range l {
					if o.me == m.To {
						o.handle(m)
					}
				}
			}
		}
	}
}

// Three machines: one that was away while many commands were done gets the image, and goes on.
func TestAway(t *testing.T) {
	c := confOf(3, 1, 64, 1)
	a, b, z := newDesk(t, 0, c), newDesk(t, 1, c), newDesk(t, 2, c)
	round := func(l ...*desk) {
		for _, k := range l {
			k.ticks(1)
		}
		pump(l...)
	}
	for range 12 {
		round(a, b, z)
	}
	for n := range 70 {
		x := a.send(1, write(n%64, 1, byte(n+1)))
		pump(a, b)
		if !x.told || x.r.Status != api.Good {
			t.Fatal(n, x)
		}
	}
	if z.x.Applied() > 2 || z.x.Top() > 2 {
		t.Fatal(z.x.Applied())
	}
	round(a, b, z)
	round(a, b, z)
	for _, k := range []*desk{a, b, z} {
		if k.x.Applied() != 71 || !bytes.Equal(k.x.State().Bytes(), a.x.State().Bytes()) {
			t.Fatal(k.me, k.x.Applied())
		}
	}
	if r := z.told(1, read(1, 1)); !standing(r) {
		t.Error(r)
	}
	if z.x.Stage(1) != conn.Full {
		t.Error(z.x.Stage(1))
	}
}
