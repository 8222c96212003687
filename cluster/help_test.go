package cluster_test

import (
	"bytes"
	"math/rand"
	"slices"
	"testing"

	"caisson/api"
	"caisson/cdb"
	"caisson/cluster"
	"caisson/conn"
	"caisson/node"
	"caisson/pdu"
	"caisson/resv"
	"caisson/sense"
	"caisson/text"
	"caisson/unit"
)

// ask is a command of an initiator.
type ask struct {
	lun  int
	cdb  []byte
	data []byte
}

// call is a command that was sent, and what was told of it, and when.
type call struct {
	conn, at   int
	ask        ask
	begin, end int
	told       bool
	r          api.Reply
}

// session is an initiator's with a machine.
type session struct {
	sn     uint32
	reader *pdu.Reader
	open   map[uint32]*call
	data   map[uint32][]byte
}

// lab is a cluster, and initiators that ask it.
type lab struct {
	t        *testing.T
	c        *cluster.Cluster
	conf     node.Conf
	sessions map[[2]int]*session
	calls    []*call
	time     int
}

func confOf(nodes, units, blocks, rho int) node.Conf {
	return node.Conf{Nodes: nodes, Units: units, Blocks: blocks, Rho: rho}
}

func newLab(t *testing.T, c node.Conf) *lab {
	t.Helper()
	x, e := cluster.New(c)
	if e != api.OK {
		t.Fatal("New", e)
	}
	return &lab{t: t, c: x, conf: c, sessions: map[[2]int]*session{}}
}

// calmLab has a leader already.
func calmLab(t *testing.T, c node.Conf) *lab {
	t.Helper()
	l := newLab(t, c)
	l.rounds(30)
	l.calm()
	return l
}

func (l *lab) step(e api.Event) { l.hear(l.c.Do(e)) }

func (l *lab) rounds(n int) {
	for range n {
		l.step(api.Event{Kind: api.EvRound})
	}
}

func (l *lab) ticks(i, n int) {
	for range n {
		l.step(api.Event{Kind: api.EvTick, Node: i})
	}
}

func (l *lab) cut(mask int)  { l.step(api.Event{Kind: api.EvCut, N: mask}) }
func (l *lab) fail(i int)    { l.step(api.Event{Kind: api.EvFail, Node: i}) }
func (l *lab) deliver(n int) { l.step(api.Event{Kind: api.EvDeliver, N: n}) }
func (l *lab) drop(n int)    { l.step(api.Event{Kind: api.EvDrop, N: n}) }
func (l *lab) crash(mask int, kept ...int) {
	l.step(api.Event{Kind: api.EvCrash, N: mask, L: kept})
}

// arrive lets all letters arrive, in their order.
func (l *lab) arrive() {
	for l.c.Flight() > 0 {
		l.deliver(0)
	}
}

// lose lets all letters be lost.
func (l *lab) lose() {
	for l.c.Flight() > 0 {
		l.drop(0)
	}
}

func (l *lab) calm() {
	l.t.Helper()
	if !l.c.Calm() {
		l.t.Fatal("not calm")
	}
	l.same()
}

// same asks of all machines that have applied as much for the same state (P5, P22.3).
func (l *lab) same() {
	l.t.Helper()
	states := map[int64][]byte{}
	for i := range l.c.Nodes() {
		x := l.c.Node(i)
		if x == nil {
			continue
		}
		b := x.State().Bytes()
		if other, ok := states[x.Applied()]; ok && !bytes.Equal(b, other) {
			l.t.Fatal("other states at", x.Applied())
		}
		states[x.Applied()] = b
	}
}

// hear takes what initiators are told.
func (l *lab) hear(told []cluster.Told) {
	for _, x := range told {
		s := l.sessions[[2]int{x.Conn, x.Node}]
		if s == nil || s.reader.Feed(x.Data) != api.OK {
			l.t.Fatal("nobody listens", x.Conn, x.Node)
		}
		for p, e, ok := s.reader.Next(); ok; p, e, ok = s.reader.Next() {
			if e != api.OK {
				l.t.Fatal("a letter", e)
			}
			l.take(s, p)
		}
	}
}

func (l *lab) take(s *session, p pdu.Pdu) {
	switch p.Op {
	case 35: // a login response
		if p.W[4] != 0 {
			l.t.Fatal("login", p)
		}
	case 37: // Data-In
		s.data[p.Task] = append(s.data[p.Task], p.Data...)
	case 33:
		c := s.open[p.Task]
		if c == nil {
			l.t.Fatal("an answer to nobody", p)
		}
		delete(s.open, p.Task)
		l.time++
		c.told, c.end = true, l.time
		c.r = api.Reply{Status: p.B3, Data: s.data[p.Task]}
		if p.B3 == api.Check {
			c.r.Key, c.r.Asc, c.r.Ascq, _ = sense.Read(p.Data[2:])
		}
	default:
		l.t.Fatal("a letter", p)
	}
}

// letters sends letters to a machine on a connection.
func (l *lab) letters(s *session, on, at int, ps ...pdu.Pdu) {
	for _, p := range ps {
		b, e := pdu.Put(p, pdu.Opts{Most: 65536})
		if e != api.OK {
			l.t.Fatal("Put", e)
		}
		l.step(api.Event{Kind: api.EvBytes, Node: at, N: on, B: b})
	}
}

// session is one in the stage Full.
func (l *lab) session(on, at int) *session {
	key := [2]int{on, at}
	if s := l.sessions[key]; s != nil && l.c.Node(at).Stage(on) == conn.Full {
		return s
	}
	r, _ := pdu.New(pdu.Opts{Most: 65536})
	s := &session{sn: 1, reader: r, open: map[uint32]*call{}, data: map[uint32][]byte{}}
	l.sessions[key] = s
	l.step(api.Event{Kind: api.EvBytes, Node: at, N: on, B: l.loginBytes()})
	return s
}

func (l *lab) loginBytes() []byte {
	pairs, _ := text.Put([]text.Pair{{Key: "InitiatorName", Val: "i"}, {Key: "TargetName", Val: node.Name}})
	b, _ := pdu.Put(pdu.Pdu{Op: 3, Now: true, Flags: 0x87, W: [7]uint32{0, 1}, Data: pairs}, pdu.Opts{Most: 65536})
	return b
}

// send sends a command to a machine, if it works: the call.
func (l *lab) send(on, at int, a ask) *call {
	c := &call{conn: on, at: at, ask: a}
	if !l.c.Up(at) {
		return c
	}
	s := l.session(on, at)
	l.calls = append(l.calls, c)
	l.time++
	c.begin = l.time
	if !l.c.Up(at) { // it died of the login
		return c
	}
	p := pdu.Pdu{Op: 1, Flags: 0x80, Lun: uint64(a.lun) << 48, Task: s.sn, Data: a.data}
	p.W[1] = s.sn
	for i := range 4 {
		p.W[3+i] = uint32(a.cdb[4*i])<<24 | uint32(a.cdb[4*i+1])<<16 | uint32(a.cdb[4*i+2])<<8 | uint32(a.cdb[4*i+3])
	}
	x, e := cdb.Parse(a.cdb)
	switch {
	case len(a.data) > 0:
		p.Flags |= 0x20
		p.W[0] = uint32(len(a.data))
	case e == api.OK && cdb.In(x) > 0:
		p.Flags |= 0x40
		p.W[0] = uint32(cdb.In(x))
	}
	s.open[s.sn] = c
	s.sn++
	l.letters(s, on, at, p)
	return c
}

// lead is who leads.
func (l *lab) lead() int {
	l.t.Helper()
	n := l.c.Leader()
	if n < 0 {
		l.t.Fatal("nobody leads")
	}
	return n
}

// good sends a command to the leader, and asks for Good: its data.
func (l *lab) good(on int, a ask) []byte {
	l.t.Helper()
	c := l.send(on, l.lead(), a)
	for range 3 {
		if !c.told {
			l.rounds(1)
		}
	}
	if !c.told || c.r.Status != api.Good {
		l.t.Fatalf("%x: %+v", a.cdb, c)
	}
	return c.r.Data
}

func build(c cdb.Cdb) []byte {
	b, e := cdb.Build(c)
	if e != api.OK {
		panic(e)
	}
	return b
}

// fill is n blocks, all bytes c.
func fill(c byte, n int) []byte { return bytes.Repeat([]byte{c}, 64*n) }

func write(lba int, c byte) ask {
	return ask{cdb: build(cdb.Cdb{Op: cdb.Write10, Lba: uint64(lba), Len: 1}), data: fill(c, 1)}
}

func read(lba, n int) ask {
	return ask{cdb: build(cdb.Cdb{Op: cdb.Read10, Lba: uint64(lba), Len: n})}
}

func unmap(lba, n int) ask {
	b, _ := cdb.PutRanges([]cdb.Range{{Lba: uint64(lba), N: n}})
	return ask{cdb: build(cdb.Cdb{Op: cdb.Unmap, Len: len(b)}), data: b}
}

func ready() ask { return ask{cdb: make([]byte, 16)} }

func reserve(action, kind int, key, next uint64) ask {
	return ask{cdb: build(cdb.Cdb{Op: cdb.PrOut, Service: action, Type: kind, Len: 24}), data: cdb.PutKeys(key, next)}
}

func keys(service int) ask {
	return ask{cdb: build(cdb.Cdb{Op: cdb.PrIn, Service: service, Len: 200})}
}

func idle(r api.Reply) bool {
	return r.Status == api.Busy || r.Status == api.TaskFull || standing(r)
}

func standing(r api.Reply) bool {
	return r.Status == api.Check && r.Key == 2 && r.Asc == 4 && r.Ascq == 11
}

// model does commands one after another.
type model struct {
	conf node.Conf
	s    *unit.State
	seq  int64
}

func newModel(c node.Conf) model {
	s, _ := unit.New(c.Units, c.Blocks)
	return model{conf: c, s: s}
}

// do is what a command of a connection is answered, and the model behind it.
func (m model) do(on int, a ask) (api.Reply, model) {
	if r, ok := node.Local(m.conf, 0, 0, a.lun, a.cdb); ok {
		return r, m
	}
	x, ofLog, r := node.Cmd(m.conf, a.lun, a.cdb, a.data)
	if ofLog && r.Status != api.Good {
		return r, m
	}
	if !ofLog {
		if !m.s.Pending(on, a.lun) {
			return m.read(on, a), m
		}
		x = unit.Cmd{Kind: unit.Pop, Lun: a.lun}
	}
	m.seq++
	x.Nexus, x.Seq = on, m.seq
	m.s = m.s.Copy()
	r, _ = m.s.Do(x)
	return r, m
}

func (m model) read(on int, a ask) api.Reply {
	x, _ := cdb.Parse(a.cdb)
	check := func(asc int) api.Reply { return api.Reply{Status: api.Check, Key: 5, Asc: asc} }
	v := m.s.Resv(a.lun)
	switch {
	case x.Op == cdb.PrIn && x.Service == 0:
		var l []uint64
		for _, k := range v.Regs() {
			l = append(l, k)
		}
		b, _ := sense.Keys(v.Gen(), l)
		return api.Reply{Data: sense.Cut(b, x.Len)}
	case x.Op == cdb.PrIn && x.Service == 1:
		n, kind := v.Holder()
		key := v.Key(n)
		if kind >= 7 {
			key = 0
		}
		b, _ := sense.Holder(v.Gen(), key, kind)
		return api.Reply{Data: sense.Cut(b, x.Len)}
	case x.Op == cdb.PrIn:
		return check(0x24)
	case x.Lba > 65535:
		return check(0x21)
	}
	return m.s.Read(on, a.lun, int(x.Lba), x.Len)
}

func sameReply(a, b api.Reply) bool {
	return a.Status == b.Status && a.Key == b.Key && a.Asc == b.Asc && a.Ascq == b.Ascq && bytes.Equal(a.Data, b.Data)
}

// linear tells whether some order of the calls explains what was told (P2): each one that was told an answer that is not idle is in it, and none behind one that began behind its end.
func linear(c node.Conf, calls []*call) bool {
	calls = slices.DeleteFunc(slices.Clone(calls), func(x *call) bool {
		return x.told && idle(x.r) || x.ask.cdb[0] == cdb.Ports
	})
	var search func(left []*call, m model) bool
	search = func(left []*call, m model) bool {
		first := 1 << 30 // the least end of those that must be
		for _, x := range left {
			if x.told {
				first = min(first, x.end)
			}
		}
		if first == 1<<30 {
			return true
		}
		for i, x := range left {
			if x.begin > first {
				continue
			}
			r, next := m.do(x.conn, x.ask)
			if x.told && !sameReply(r, x.r) {
				continue
			}
			if !x.told && next.s == m.s { // it changes nothing: it need not be
				continue
			}
			if search(slices.Delete(slices.Clone(left), i, i+1), next) {
				return true
			}
		}
		return false
	}
	return search(calls, newModel(c))
}

// anyAsk is some command on few blocks, each write with bytes of its own.
func anyAsk(r *rand.Rand, c node.Conf, n int) ask {
	lba := r.Intn(min(2, c.Blocks))
	var a ask
	switch r.Intn(12) {
	case 0, 1, 2:
		a = write(lba, byte(1+n))
	case 3, 4, 5, 6:
		a = read(0, min(2, c.Blocks))
	case 7:
		a = unmap(lba, 1)
	case 8:
		a = ready()
	case 9:
		a = keys(r.Intn(3))
	default:
		actions := []int{resv.Register, resv.Reserve, resv.Release, resv.Clear, resv.Preempt, resv.Ignore, resv.Ignore, resv.Ignore, resv.Preempt}
		kinds := []int{1, 3, 5, 6, 7, 8}
		a = reserve(actions[r.Intn(len(actions))], kinds[r.Intn(len(kinds))], uint64(r.Intn(3)), uint64(r.Intn(3)))
	}
	a.lun = r.Intn(c.Units)
	return a
}
