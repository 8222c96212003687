package target_test

import (
	"bytes"
	"math/rand"
	"testing"

	"caisson/api"
	"caisson/cdb"
	"caisson/node"
	"caisson/past"
	"caisson/resv"
	"caisson/target"
)

func confOf(nodes, units, blocks, rho int) node.Conf {
	return node.Conf{Nodes: nodes, Units: units, Blocks: blocks, Rho: rho}
}

func newTarget(t *testing.T, c node.Conf) *target.Target {
	t.Helper()
	x, e := target.New(c)
	if e != api.OK || x == nil {
		t.Fatal("New", e)
	}
	return x
}

// calmTarget has a leader already.
func calmTarget(t *testing.T, c node.Conf) *target.Target {
	t.Helper()
	x := newTarget(t, c)
	quiet(t, x)
	return x
}

func quiet(t *testing.T, x *target.Target) {
	t.Helper()
	if n, ok := x.Quiet(); !ok || n > x.Bound() || !x.Cluster().Calm() {
		t.Fatal("Quiet", n, ok)
	}
}

func rounds(x *target.Target, n int) {
	for range n {
		x.Step(api.Event{Kind: api.EvRound})
	}
}

func cut(x *target.Target, mask int) { x.Step(api.Event{Kind: api.EvCut, N: mask}) }

func build(c cdb.Cdb) []byte {
	b, e := cdb.Build(c)
	if e != api.OK {
		panic(e)
	}
	return b
}

// fill is n blocks, all bytes c.
func fill(c byte, n int) []byte { return bytes.Repeat([]byte{c}, 64*n) }

func write(lba, n int, c byte) past.Ask {
	return past.Ask{Cdb: build(cdb.Cdb{Op: cdb.Write10, Lba: uint64(lba), Len: n}), Data: fill(c, n)}
}

func read(lba, n int) past.Ask {
	return past.Ask{Cdb: build(cdb.Cdb{Op: cdb.Read10, Lba: uint64(lba), Len: n})}
}

func unmap(lba, n int) past.Ask {
	b, _ := cdb.PutRanges([]cdb.Range{{Lba: uint64(lba), N: n}})
	return past.Ask{Cdb: build(cdb.Cdb{Op: cdb.Unmap, Len: len(b)}), Data: b}
}

func ready() past.Ask { return past.Ask{Cdb: make([]byte, 16)} }

func reserve(action, kind int, key, next uint64) past.Ask {
	return past.Ask{Cdb: build(cdb.Cdb{Op: cdb.PrOut, Service: action, Type: kind, Len: 24}), Data: cdb.PutKeys(key, next)}
}

func keys(service int) past.Ask {
	return past.Ask{Cdb: build(cdb.Cdb{Op: cdb.PrIn, Service: service, Len: 200})}
}

// local is what each machine answers by itself, at once.
func local() past.Ask { return past.Ask{Cdb: build(cdb.Cdb{Op: cdb.Inquiry, Len: 36})} }

func ports() past.Ask {
	return past.Ask{Cdb: build(cdb.Cdb{Op: cdb.Ports, Service: 10, Len: 200})}
}

func of(lun int, a past.Ask) past.Ask {
	a.Lun = lun
	return a
}

func good(data []byte) api.Reply { return api.Reply{Status: api.Good, Data: data} }

func conflict() api.Reply { return api.Reply{Status: api.Conflict} }

func check(key, asc, ascq int) api.Reply {
	return api.Reply{Status: api.Check, Key: key, Asc: asc, Ascq: ascq}
}

func standing() api.Reply { return check(2, 4, 11) }

func same(a, b api.Reply) bool {
	return a.Status == b.Status && a.Key == b.Key && a.Asc == b.Asc && a.Ascq == b.Ascq && bytes.Equal(a.Data, b.Data)
}

// does asks by Do, and for that answer.
func does(t *testing.T, x *target.Target, on int, a past.Ask, want api.Reply) {
	t.Helper()
	if r, ok := x.Do(on, a); !ok || !same(r, want) {
		t.Fatalf("%x: %+v %v, want %+v", a.Cdb, r, ok, want)
	}
}

// sends sends a command to a machine, and asks for its being told that in so many rounds.
func sends(t *testing.T, x *target.Target, on, at int, a past.Ask, n int, want api.Reply) {
	t.Helper()
	number := x.Send(on, at, a)
	if number < 0 {
		t.Fatalf("%x is not sent", a.Cdb)
	}
	rounds(x, n)
	if c := x.Calls()[number]; !c.Told || !same(c.R, want) {
		t.Fatalf("%x: %+v, want %+v", a.Cdb, c, want)
	}
}

// linear asks for an order of the calls.
func linear(t *testing.T, c node.Conf, x *target.Target, what ...any) {
	t.Helper()
	if ok, e := past.Linear(c, x.Calls()); !ok || e != api.OK {
		for _, c := range x.Calls() {
			t.Logf("%+v", c)
		}
		t.Fatal("nothing explains them:", ok, e, what)
	}
}

// alike asks of all machines that have done as much for the same state (P5).
func alike(t *testing.T, x *target.Target) {
	t.Helper()
	states := map[int64][]byte{}
	for i := range x.Cluster().Nodes() {
		m := x.Cluster().Node(i)
		if m == nil {
			continue
		}
		b := m.State().Bytes()
		if other, ok := states[m.Applied()]; ok && !bytes.Equal(b, other) {
			t.Fatal("other states at", m.Applied())
		}
		states[m.Applied()] = b
	}
}

// anyAsk is some command on few blocks, each write with bytes of its own.
func anyAsk(r *rand.Rand, c node.Conf, n int) past.Ask {
	lba := r.Intn(min(3, c.Blocks+1))
	var a past.Ask
	switch r.Intn(14) {
	case 0, 1, 2, 3:
		a = write(lba, 1, byte(1+n))
	case 4, 5, 6, 7:
		a = read(0, min(2, c.Blocks))
	case 8:
		a = unmap(lba, 1)
	case 9:
		a = ready()
	case 10:
		a = keys(r.Intn(3))
	case 11:
		a = []past.Ask{local(), ports(), {Cdb: bytes.Repeat([]byte{255}, 16)}, of(255, read(0, 1)), {Cdb: write(0, 1, 1).Cdb}, {Cdb: make([]byte, 16), Data: fill(9, 1)}}[r.Intn(6)]
	default:
		actions := []int{resv.Register, resv.Reserve, resv.Release, resv.Clear, resv.Preempt, resv.Preempt, resv.Ignore, resv.Ignore, resv.Ignore}
		kinds := []int{1, 3, 5, 6, 7, 8}
		a = reserve(actions[r.Intn(len(actions))], kinds[r.Intn(len(kinds))], uint64(r.Intn(3)), uint64(r.Intn(3)))
	}
	if a.Lun == 0 {
		a.Lun = r.Intn(c.Units)
	}
	return a
}

// anyKept is what of each group that is not safe a disk keeps.
func anyKept(r *rand.Rand) []int {
	l := make([]int, r.Intn(6))
	for i := range l {
		l[i] = r.Intn(1<<16) - r.Intn(2)<<20
	}
	return l
}

// anyStep is some step of a script, whatever may go wrong.
func anyStep(t *testing.T, r *rand.Rand, x *target.Target, c node.Conf) {
	t.Helper()
	some := r.Intn(c.Nodes)
	switch k := r.Intn(100); {
	case k < 40:
		x.Step(api.Event{Kind: api.EvDeliver, N: r.Intn(2000) - 1000})
	case k < 62:
		x.Step(api.Event{Kind: api.EvTick, Node: some})
	case k < 65:
		x.Step(api.Event{Kind: api.EvDrop, N: r.Intn(1000)})
	case k < 68:
		x.Step(api.Event{Kind: api.EvDouble, N: r.Intn(1000)})
	case k < 70:
		x.Step(api.Event{Kind: api.EvDraw, Node: some, N: r.Intn(100)})
	case k < 73:
		cut(x, r.Intn(1<<c.Nodes))
	case k < 77:
		cut(x, 0)
	case k < 79:
		x.Step(api.Event{Kind: api.EvFail, Node: some})
	case k < 81:
		x.Step(api.Event{Kind: api.EvCrash, N: r.Intn(1 << c.Nodes), L: anyKept(r)})
	case k < 82:
		kept := make([][]int, r.Intn(c.Nodes+2))
		for i := range kept {
			kept[i] = anyKept(r)
		}
		if e := x.Power(kept); e != api.OK {
			t.Fatal("Power", e)
		}
	case k < 92:
		rounds(x, 1+r.Intn(3))
	}
}

// aim is the machine that leads, mostly.
func aim(r *rand.Rand, x *target.Target) int {
	if n := x.Cluster().Leader(); n >= 0 && r.Intn(4) > 0 {
		return n
	}
	return r.Intn(x.Cluster().Nodes())
}
