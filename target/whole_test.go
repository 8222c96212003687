package target_test

import (
	"bytes"
	"math/rand"
	"testing"

	"caisson/api"
	"caisson/cdb"
	"caisson/node"
	"caisson/past"
	"caisson/pdu"
	"caisson/resv"
	"caisson/sense"
	"caisson/target"
	"caisson/text"
)

// The first example of the whole: what any machine answers, and what the others leave to who leads.
func TestAnyMachine(t *testing.T) {
	x := calmTarget(t, confOf(3, 1, 8, 1))
	lead := x.Cluster().Leader()
	capacity, _ := sense.Capacity(8)
	inquiry, _ := sense.Inquiry(false, 0, 0)
	states := []int{sense.Standby, sense.Standby, sense.Standby}
	states[lead] = sense.Active
	groups, _ := sense.Ports(states)
	for at := range 3 {
		sends(t, x, 1, at, past.Ask{Cdb: build(cdb.Cdb{Op: cdb.ReadCapacity})}, 0, good(capacity))
		sends(t, x, 1, at, local(), 0, good(inquiry))
		sends(t, x, 1, at, past.Ask{Cdb: build(cdb.Cdb{Op: cdb.ReportLuns, Len: 100})}, 0, good(luns(1)))
		sends(t, x, 1, at, ports(), 0, good(groups))
		for _, a := range []past.Ask{read(5, 1), write(5, 1, 1), unmap(5, 1), ready(), keys(0), reserve(resv.Ignore, 0, 0, 1)} {
			if at != lead {
				sends(t, x, 1, at, a, 0, standing())
			}
		}
	}
}

// The second and the third one, and P3: what was answered Good is there behind any loss of power, whatever is kept.
func TestPowerAgain(t *testing.T) {
	for nodes := 1; nodes <= 5; nodes++ {
		r := rand.New(rand.NewSource(int64(nodes)))
		x := newTarget(t, confOf(nodes, 2, 64, 1+nodes%4))
		has := map[[2]int]byte{}
		for n := range 60 { // there are images among them
			key := [2]int{r.Intn(2), r.Intn(64)}
			does(t, x, n%16, of(key[0], write(key[1], 1, byte(n+1))), good(nil))
			has[key] = byte(n + 1)
			if n%6 == 5 {
				kept := make([][]int, nodes)
				for i := range kept {
					kept[i] = anyKept(r)
				}
				if e := x.Power(kept); e != api.OK {
					t.Fatal(e)
				}
				for key, c := range has {
					does(t, x, 3, of(key[0], read(key[1], 1)), good(fill(c, 1)))
				}
			}
		}
		quiet(t, x)
		alike(t, x)
	}
}

// The fourth one, and P2: a leader that is cut off reads nothing that the others have changed.
func TestCutOff(t *testing.T) {
	for rho := 1; rho <= 4; rho++ {
		c := confOf(3, 1, 8, rho)
		x := leadBy(t, c, 1)
		does(t, x, 1, write(5, 1, 1), good(nil))
		first := len(x.Calls()) // the calls from here on change the block, or read it
		cut(x, 2)
		sends(t, x, 2, 1, read(5, 1), 0, good(fill(1, 1)))
		for x.Cluster().Leader() == 1 {
			rounds(x, 1)
		}
		lead := x.Cluster().Leader()
		sends(t, x, 1, lead, write(5, 1, 2), 2, good(nil))
		n := x.Send(2, 1, read(5, 1))
		rounds(x, 30)
		if x.Calls()[n].Told {
			t.Fatal(x.Calls()[n])
		}
		cut(x, 0)
		rounds(x, 3)
		if k := x.Calls()[n]; k.Told && !same(k.R, standing()) {
			t.Fatal(k)
		}
		does(t, x, 2, read(5, 1), good(fill(2, 1)))
		if ok, e := past.Linear(c, x.Calls()[first-1:]); !ok || e != api.OK {
			t.Fatal(ok, e)
		}
	}
}

// The fifth and the sixth one, P24.6 and P4: who was fenced off changes nothing, on any machine, behind losses of power and other leaders, also what it sent ahead of that; until it registers again.
func TestFenced(t *testing.T) {
	for lead := range 3 {
		x := leadBy(t, confOf(3, 1, 8, 2), lead)
		does(t, x, 1, reserve(resv.Register, 0, 0, 11), good(nil))
		does(t, x, 2, reserve(resv.Register, 0, 0, 22), good(nil))
		does(t, x, 1, reserve(resv.Reserve, resv.WritesRegs, 11, 0), good(nil))
		does(t, x, 1, write(3, 1, 1), good(nil))
		cut(x, 1<<lead)
		late := x.Send(1, lead, write(3, 1, 66)) // waits at who leads no more
		does(t, x, 2, reserve(resv.Preempt, resv.WritesRegs, 22, 11), good(nil))
		cut(x, 0)
		does(t, x, 2, ready(), good(nil))
		does(t, x, 1, ready(), check(6, 0x2a, resv.Unregistered))
		for range 3 {
			does(t, x, 1, write(3, 1, 67), conflict())
			does(t, x, 1, unmap(3, 1), conflict())
			does(t, x, 1, read(3, 1), good(fill(1, 1)))
			quiet(t, x)
			for i := range 3 {
				if b, _ := x.Cluster().Node(i).State().Image(0).Read(3, 1); !bytes.Equal(b, fill(1, 1)) {
					t.Fatal(i, b)
				}
			}
			x.Power(nil)
		}
		if x.Calls()[late].Told {
			t.Error(x.Calls()[late])
		}
		does(t, x, 1, reserve(resv.Register, 0, 0, 12), good(nil))
		does(t, x, 1, write(3, 1, 4), good(nil))
		does(t, x, 2, read(3, 1), good(fill(4, 1)))
	}
}

// P24.6, P4, at random: behind the answer to a command that takes a nexus' key away nothing is there that it sends from then on, on any machine, whatever happens.
func TestFencedAtRandom(t *testing.T) {
	const late = 200 // what it writes when it has no key any more
	refused, tried := 0, 0
	for seed := range int64(60) {
		r := rand.New(rand.NewSource(seed))
		c := confOf(1+r.Intn(5), 1, 4, 1+r.Intn(4))
		x := newTarget(t, c)
		does(t, x, 1, reserve(resv.Ignore, 0, 0, 11), good(nil))
		does(t, x, 2, reserve(resv.Ignore, 0, 0, 22), good(nil))
		for range r.Intn(4) { // what is under way is done ahead of that, or not at all
			x.Send(1, aim(r, x), write(r.Intn(4), 1, 100))
		}
		for range r.Intn(20) {
			anyStep(t, r, x, c)
		}
		x.Restart()
		if r, ok := x.Do(2, reserve(resv.Preempt, resv.WritesRegs, 22, 11)); !ok || r.Status != api.Good && r.Status != api.Conflict { // Conflict, if it was done already
			t.Fatal("seed", seed, r, ok)
		}
		for n := range 40 {
			anyStep(t, r, x, c)
			if n%4 == 0 {
				tried++
				x.Send(1, aim(r, x), []past.Ask{write(r.Intn(4), 1, late), unmap(r.Intn(4), 1)}[r.Intn(2)])
			}
			if n%9 == 0 {
				x.Send(2, aim(r, x), write(r.Intn(4), 1, byte(n)))
			}
			for i := range c.Nodes {
				if b, _ := x.Cluster().Node(i).State().Image(0).Read(0, 4); bytes.Contains(b, []byte{late}) {
					t.Fatal("seed", seed, "it has written")
				}
			}
		}
		x.Restart()
		if r, ok := x.Do(3, read(0, 4)); !ok || bytes.Contains(r.Data, []byte{late}) {
			t.Fatal("seed", seed, r, ok)
		}
		for _, k := range x.Calls() {
			if k.Conn == 1 && k.Told && k.R.Status == api.Conflict {
				refused++
			}
		}
	}
	if refused < tried/8 {
		t.Error("little was refused:", refused, tried)
	}
}

// P24.5, P2, P3, P5: whatever letters are lost, doubled and late, whoever is cut off, fails and loses its power: some order explains all that was told, machines have the same; and P24.7, P8: behind a Restart all goes on.
func TestScriptsAtRandom(t *testing.T) {
	told, calls := 0, 0
	for seed := range int64(300) {
		r := rand.New(rand.NewSource(seed))
		c := confOf(1+r.Intn(5), 1+r.Intn(3), 1+r.Intn(4), 1+r.Intn(4))
		x := newTarget(t, c)
		if r.Intn(3) > 0 {
			rounds(x, 12+r.Intn(10))
		}
		for sent := 0; sent < 8; {
			anyStep(t, r, x, c)
			if r.Intn(10) == 0 && x.Send(r.Intn(3), aim(r, x), anyAsk(r, c, sent)) >= 0 {
				sent++
			}
		}
		for range 50 {
			anyStep(t, r, x, c)
		}
		linear(t, c, x, "seed", seed)
		alike(t, x)
		for _, k := range x.Calls() {
			calls++
			if k.Told && !past.Idle(k.R) {
				told++
			}
		}
		goesOn(t, r, x, c)
	}
	if told < calls/4 {
		t.Error("little was told:", told, calls)
	}
}

// goesOn asks for P24.7 and P8: behind a Restart all is calm soon, each command is answered, and by who leads not with standing by.
func goesOn(t *testing.T, r *rand.Rand, x *target.Target, c node.Conf) {
	t.Helper()
	if e := x.Restart(); e != api.OK {
		t.Fatal(e)
	}
	switch r.Intn(3) {
	case 0:
		quiet(t, x)
	case 1:
		rounds(x, 24+x.Cluster().Flight()/1000) // what is on its way comes first
		if !x.Cluster().Calm() {
			t.Fatal("it is not calm")
		}
	}
	for n := range 3 {
		if _, ok := x.Do(r.Intn(16), anyAsk(r, c, n)); !ok {
			t.Fatal("it is not answered")
		}
	}
	quiet(t, x)
	alike(t, x)
	for at := range c.Nodes {
		for _, a := range []past.Ask{read(0, 1), write(0, 1, 9), ready(), keys(0)} {
			n := x.Send(9, at, a)
			rounds(x, 1)
			if k := x.Calls()[n]; !k.Told || same(k.R, standing()) != (at != x.Cluster().Leader()) {
				t.Fatal(at, k)
			}
		}
	}
}

// P24.5, P3: each initiator by Do alone, in turn, with losses of power in between: what is told is what a world answers in that order, where each command was sent once to who could do it.
func TestAgainstWorld(t *testing.T) {
	for seed := range int64(20) {
		r := rand.New(rand.NewSource(seed))
		c := confOf(1+r.Intn(5), 1+r.Intn(3), 1+r.Intn(8), 1+r.Intn(4))
		x := calmTarget(t, c)
		w, _ := past.New(c)
		for n := range 80 {
			on, a := r.Intn(4), anyAsk(r, c, n)
			if a.Cdb[0] == cdb.Ports {
				continue
			}
			does(t, x, on, a, w.Do(on, a))
			if r.Intn(20) == 0 {
				x.Power(nil)
				quiet(t, x)
			}
		}
		alike(t, x)
	}
}

// The tenth one, and P5: a machine that was away while many commands write has the same units behind a Restart.
func TestAway(t *testing.T) {
	for lead := range 3 {
		x := leadBy(t, confOf(3, 3, 64, 1), lead)
		away := (lead + 1) % 3
		cut(x, 1<<away)
		for n := range 60 {
			sends(t, x, 1, lead, of(n%3, write(n%32, 32, byte(n))), 1, good(nil))
		}
		top := x.Cluster().Node(lead).Top()
		if x.Cluster().Node(away).Top() > top-50 {
			t.Fatal("it was not away")
		}
		cut(x, 0)
		quiet(t, x)
		if x.Cluster().Node(away).Applied() < top {
			t.Fatal(x.Cluster().Node(away).Applied(), top)
		}
		alike(t, x)
	}
}

// P24.7, with as many letters on their way as may be.
func TestGoesOnBehindManyLetters(t *testing.T) {
	for seed := range int64(4) {
		r := rand.New(rand.NewSource(seed))
		c := confOf(2+int(seed)%4, 3, 64, 1+r.Intn(4))
		x := calmTarget(t, c)
		for n := 0; x.Cluster().Flight() < 9990; n++ {
			x.Send(1, aim(r, x), write(r.Intn(32), 32, byte(n)))
			x.Step(api.Event{Kind: api.EvTick, Node: r.Intn(c.Nodes)})
			for range 100 {
				x.Step(api.Event{Kind: api.EvDouble, N: r.Intn(1 << 20)})
			}
			for range 10 {
				x.Step(api.Event{Kind: api.EvDeliver, N: r.Intn(1 << 20)})
			}
		}
		goesOn(t, r, x, c)
	}
}

// P6: whatever bytes come to machines on other connections, and on those of the initiators, nothing of it is told as an answer, and it goes on.
func TestAnyBytes(t *testing.T) {
	for seed := range int64(60) {
		r := rand.New(rand.NewSource(seed))
		c := confOf(1+r.Intn(3), 1, 4, 1)
		x := calmTarget(t, c)
		sent := 0
		for range 200 {
			x.Cluster().Do(api.Event{Kind: api.EvBytes, Node: r.Intn(c.Nodes), N: r.Intn(4), B: anyBytes(r)})
			if r.Intn(3) == 0 {
				anyStep(t, r, x, c)
			}
			if r.Intn(30) == 0 && sent < 7 && x.Send(r.Intn(3), aim(r, x), anyAsk(r, c, sent)) >= 0 {
				sent++
			}
		}
		linear(t, c, x, "seed", seed)
		goesOn(t, r, x, c)
	}
}

// foreign is letters that somebody else sends on a connection.
func foreign(x *target.Target, on, at int, ps ...pdu.Pdu) {
	for _, p := range ps {
		b, _ := pdu.Put(p, pdu.Opts{Most: api.MaxBytes})
		x.Cluster().Do(api.Event{Kind: api.EvBytes, Node: at, N: on, B: b})
	}
}

// P6: what somebody else is answered on an initiator's connection is not taken for an answer to a call: neither of another connection, nor of one that was told, nor of one ahead of a loss of power.
func TestForeign(t *testing.T) {
	x := leadBy(t, confOf(3, 1, 8, 1), 0)
	check5 := check(5, 0x21, 0)
	sends(t, x, 5, 0, write(9, 1, 1), 1, check5) // the call 0
	for n := range uint32(4) {
		foreign(x, 5, 0, pdu.Pdu{Op: 1, Flags: 0x80, Task: n, W: [7]uint32{1: 2 + n}})
	}
	x.Send(6, 0, write(9, 1, 1)) // the call 1, answered behind those
	if x.Cluster().Node(0).Waits() != 5 {
		t.Fatal(x.Cluster().Node(0).Waits())
	}
	if n := x.Step(api.Event{Kind: api.EvRound}); n != 1 || x.Told() != 2 {
		t.Error(n, x.Told())
	}
	for _, c := range x.Calls() {
		if !same(c.R, check5) {
			t.Error(c)
		}
	}

	x = leadBy(t, confOf(3, 1, 8, 1), 0)
	x.Send(5, 0, write(1, 1, 1)) // is lost with the power
	if e := x.Power(nil); e != api.OK {
		t.Fatal(e)
	}
	quiet(t, x)
	lead := x.Cluster().Leader()
	pairs, _ := text.Put([]text.Pair{{Key: "InitiatorName", Val: "i"}, {Key: "TargetName", Val: node.Name}})
	foreign(x, 5, lead, pdu.Pdu{Op: 3, Now: true, Flags: 0x87, W: [7]uint32{1: 1}, Data: pairs}, pdu.Pdu{Op: 1, Flags: 0x80, W: [7]uint32{1: 1}})
	if x.Cluster().Node(lead).Waits() != 1 {
		t.Fatal(x.Cluster().Node(lead).Waits())
	}
	if n := x.Step(api.Event{Kind: api.EvRound}); n != 0 || x.Told() != 0 || x.Calls()[0].Told {
		t.Error(n, x.Calls())
	}
}

// anyBytes is bytes of an initiator that does not keep to anything; no command that changes blocks is among them.
func anyBytes(r *rand.Rand) []byte {
	pairs, _ := text.Put([]text.Pair{{Key: "InitiatorName", Val: "i"}, {Key: "TargetName", Val: node.Name}})
	p := pdu.Pdu{Op: []int{0, 2, 3, 3, 4, 5, 6, 16, 33, r.Intn(64)}[r.Intn(10)], Now: r.Intn(2) == 0, Flags: []int{0x87, 0x80, 0, r.Intn(256)}[r.Intn(4)], Task: uint32(r.Intn(4))}
	if p.Op == 1 {
		p.Op = 0
	}
	p.W[1] = uint32(r.Intn(3))
	switch r.Intn(3) {
	case 0:
		p.Data = pairs
	case 1:
		p.Data = make([]byte, r.Intn(100))
		r.Read(p.Data)
	}
	b, _ := pdu.Put(p, pdu.Opts{Most: api.MaxBytes})
	switch r.Intn(6) {
	case 0:
		b[r.Intn(len(b))] ^= 1 << r.Intn(8)
	case 1:
		b = b[:r.Intn(len(b))]
	case 2:
		b = make([]byte, r.Intn(200))
		r.Read(b)
	}
	return b
}
