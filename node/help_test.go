package node_test

import (
	"bytes"
	"slices"
	"testing"

	"caisson/api"
	"caisson/cdb"
	"caisson/conn"
	"caisson/disk"
	"caisson/entries"
	"caisson/node"
	"caisson/pdu"
	"caisson/sense"
	"caisson/text"
	"caisson/unit"
)

func confOf(nodes, units, blocks, rho int) node.Conf {
	return node.Conf{Nodes: nodes, Units: units, Blocks: blocks, Rho: rho}
}

// ask is a command of an initiator.
type ask struct {
	lun  int
	cdb  []byte
	data []byte
}

// call is a command that was sent, and what was told of it.
type call struct {
	told bool
	r    api.Reply
}

// client is an initiator on a connection.
type client struct {
	sn     uint32
	reader *pdu.Reader
	open   map[uint32]*call
	data   map[uint32][]byte
	other  []pdu.Pdu // letters that are no answers to commands
}

// desk is a machine, initiators on its connections, and what it has sent to other machines.
type desk struct {
	t       *testing.T
	me      int
	conf    node.Conf
	disk    *disk.Disk
	x       *node.Node
	clients map[int]*client
	letters []api.Msg
}

// newDesk is the machine me on an empty disk.
func newDesk(t *testing.T, me int, c node.Conf) *desk {
	t.Helper()
	d, e := disk.New(node.Need(c))
	if e != api.OK {
		t.Fatal("a disk", e)
	}
	k := &desk{t: t, me: me, conf: c, disk: d}
	k.start()
	return k
}

// start lets the machine start with what its disk has.
func (k *desk) start() {
	k.t.Helper()
	x, e := node.New(k.me, k.conf, k.disk)
	if e != api.OK {
		k.t.Fatal("New", e)
	}
	k.x, k.clients, k.letters = x, map[int]*client{}, nil
}

// crash lets the disk crash, and the machine start again.
func (k *desk) crash(kept ...int) {
	k.t.Helper()
	k.disk.Crash(kept)
	k.start()
}

// alone is a machine alone, that leads.
func alone(t *testing.T, c node.Conf) *desk {
	t.Helper()
	k := newDesk(t, 0, c)
	k.ticks(20)
	return k
}

// take hands on what the machine sends.
func (k *desk) take(l []node.Out) {
	k.t.Helper()
	for _, o := range l {
		if o.Conn {
			k.hear(o)
			continue
		}
		m, e := entries.UnpackMsg(o.Data)
		if e != api.OK || m.To != o.To || m.From != k.me {
			k.t.Fatal("a letter", e, m, o.To)
		}
		k.letters = append(k.letters, m)
	}
}

func (k *desk) hear(o node.Out) {
	k.t.Helper()
	c := k.clients[o.To]
	if c == nil || c.reader.Feed(o.Data) != api.OK {
		k.t.Fatal("nobody listens on", o.To)
	}
	for p, e, ok := c.reader.Next(); ok; p, e, ok = c.reader.Next() {
		if e != api.OK {
			k.t.Fatal("a letter", e)
		}
		c.take(p)
	}
	if c.reader.Left() > 0 {
		k.t.Fatal("half a letter")
	}
}

func (c *client) take(p pdu.Pdu) {
	x := c.open[p.Task]
	switch {
	case p.Op == 37 && x != nil: // Data-In
		c.data[p.Task] = append(c.data[p.Task], p.Data...)
	case p.Op == 33 && x != nil:
		delete(c.open, p.Task)
		x.told, x.r = true, api.Reply{Status: p.B3, Data: c.data[p.Task]}
		if p.B3 == api.Check {
			x.r.Key, x.r.Asc, x.r.Ascq, _ = sense.Read(p.Data[2:])
		}
	default:
		c.other = append(c.other, p)
	}
}

func (k *desk) ticks(n int) {
	k.t.Helper()
	for range n {
		k.take(k.x.Tick())
	}
}

func (k *desk) handle(m api.Msg) {
	k.t.Helper()
	m.To = k.me
	b, e := entries.PackMsg(m)
	if e != api.OK {
		k.t.Fatal("PackMsg", e)
	}
	k.take(k.x.Handle(m.From, b))
}

// sent is what was sent to other machines since it was asked last.
func (k *desk) sent() []api.Msg {
	l := k.letters
	k.letters = nil
	return l
}

// peers lets those machines agree to all that they are sent, till nothing is; what others are sent is lost.
func (k *desk) peers(who ...int) {
	k.t.Helper()
	for len(k.letters) > 0 {
		m := k.letters[0]
		k.letters = k.letters[1:]
		if slices.Contains(who, m.To) {
			k.agree(m)
		}
	}
}

// agree answers a message as one does that agrees.
func (k *desk) agree(m api.Msg) {
	k.t.Helper()
	r := api.Msg{From: m.To, Term: m.Term, Yes: true, Round: m.Round}
	switch m.Kind {
	case api.Ask:
		r.Kind, r.Term, r.Round = api.AskTold, m.Term-1, m.Term
	case api.Vote:
		r.Kind = api.VoteTold
	case api.Beat:
		r.Kind = api.BeatTold
	case api.Add:
		r.Kind, r.At = api.AddTold, min(m.At+int64(len(m.L)), api.MaxTicks)
	default:
		return
	}
	k.handle(r)
}

// leads lets the machine be chosen by the others, who then agree to its first entry.
func (k *desk) leads(who ...int) {
	k.t.Helper()
	for range 40 {
		if k.x.Info().Role == api.Leader {
			break
		}
		k.ticks(1)
		k.peers(who...)
	}
	if i := k.x.Info(); i.Role != api.Leader || i.Commit != k.x.Top() || k.x.Applied() != i.Commit {
		k.t.Fatal("it does not lead", i)
	}
}

// client is one in the stage Full.
func (k *desk) client(on int) *client {
	k.t.Helper()
	if c := k.clients[on]; c != nil && k.x.Stage(on) == conn.Full {
		return c
	}
	r, _ := pdu.New(pdu.Opts{Most: 65536})
	c := &client{sn: 1, reader: r, open: map[uint32]*call{}, data: map[uint32][]byte{}}
	k.clients[on] = c
	k.say(on, login())
	if k.x.Dead() {
		return c
	}
	if len(c.other) != 1 || c.other[0].Op != 35 || c.other[0].W[4] != 0 || k.x.Stage(on) != conn.Full {
		k.t.Fatal("login", c.other)
	}
	c.other = nil
	return c
}

func login() pdu.Pdu {
	b, _ := text.Put([]text.Pair{{Key: "InitiatorName", Val: "i"}, {Key: "TargetName", Val: node.Name}})
	return pdu.Pdu{Op: 3, Now: true, Flags: 0x87, W: [7]uint32{0, 1}, Data: b}
}

// say sends letters on a connection.
func (k *desk) say(on int, l ...pdu.Pdu) {
	k.t.Helper()
	k.take(k.x.Bytes(on, put(l...)))
}

func put(l ...pdu.Pdu) []byte {
	var all []byte
	for _, p := range l {
		b, e := pdu.Put(p, pdu.Opts{Most: 65536})
		if e != api.OK {
			panic(e)
		}
		all = append(all, b...)
	}
	return all
}

// letter is that of a command, and its call.
func (c *client) letter(a ask) (pdu.Pdu, *call) {
	x := &call{}
	p := pdu.Pdu{Op: 1, Flags: 0x80, Lun: uint64(uint16(a.lun)) << 48, Task: c.sn, Data: a.data}
	p.W[1] = c.sn
	for i := range 4 {
		for j := range 4 {
			p.W[3+i] = p.W[3+i]<<8 | uint32(a.cdb[4*i+j])
		}
	}
	parsed, e := cdb.Parse(a.cdb)
	switch {
	case len(a.data) > 0:
		p.Flags |= 0x20
		p.W[0] = uint32(len(a.data))
	case e == api.OK && cdb.In(parsed) > 0:
		p.Flags |= 0x40
		p.W[0] = uint32(cdb.In(parsed))
	}
	c.open[c.sn] = x
	c.sn++
	return p, x
}

// send sends a command on a connection.
func (k *desk) send(on int, a ask) *call {
	k.t.Helper()
	p, x := k.client(on).letter(a)
	k.say(on, p)
	return x
}

// told sends a command that is answered at once.
func (k *desk) told(on int, a ask) api.Reply {
	k.t.Helper()
	x := k.send(on, a)
	if !x.told {
		k.t.Fatalf("%x is not answered", a.cdb)
	}
	return x.r
}

// good sends a command that is answered Good at once: its data.
func (k *desk) good(on int, a ask) []byte {
	k.t.Helper()
	r := k.told(on, a)
	if r.Status != api.Good {
		k.t.Fatalf("%x: %+v", a.cdb, r)
	}
	return r.Data
}

// is holds an answer against its status and sense.
func is(r api.Reply, status, key, asc, ascq int) bool {
	return r.Status == status && r.Key == key && r.Asc == asc && r.Ascq == ascq
}

func standing(r api.Reply) bool { return is(r, api.Check, 2, 0x04, 0x0b) && len(r.Data) == 0 }

func wrong(r api.Reply, asc int) bool { return is(r, api.Check, 5, asc, 0) && len(r.Data) == 0 }

func sameReply(a, b api.Reply) bool {
	return is(a, b.Status, b.Key, b.Asc, b.Ascq) && bytes.Equal(a.Data, b.Data)
}

func build(c cdb.Cdb) []byte {
	b, e := cdb.Build(c)
	if e != api.OK {
		panic(e)
	}
	return b
}

// fill is n blocks, all bytes c.
func fill(c byte, n int) []byte { return bytes.Repeat([]byte{c}, api.Block*n) }

func write(lba, n int, c byte) ask {
	return ask{cdb: build(cdb.Cdb{Op: cdb.Write10, Lba: uint64(lba), Len: n}), data: fill(c, n)}
}

func read(lba, n int) ask {
	return ask{cdb: build(cdb.Cdb{Op: cdb.Read10, Lba: uint64(lba), Len: n})}
}

func unmap(l ...cdb.Range) ask {
	b, e := cdb.PutRanges(l)
	if e != api.OK {
		panic(e)
	}
	return ask{cdb: build(cdb.Cdb{Op: cdb.Unmap, Len: len(b)}), data: b}
}

func ready() ask { return ask{cdb: build(cdb.Cdb{Op: cdb.TestUnitReady})} }

func reserve(action, kind int, key, next uint64) ask {
	return ask{cdb: build(cdb.Cdb{Op: cdb.PrOut, Service: action, Type: kind, Len: 24}), data: cdb.PutKeys(key, next)}
}

func keys(service, n int) ask {
	return ask{cdb: build(cdb.Cdb{Op: cdb.PrIn, Service: service, Len: n})}
}

// model does commands one after another.
type model struct {
	conf node.Conf
	s    *unit.State
	seq  int64
}

func newModel(c node.Conf) *model {
	s, _ := unit.New(c.Units, c.Blocks)
	return &model{conf: c, s: s}
}

// do is what a command of a connection is answered by who leads.
func (m *model) do(on int, a ask) api.Reply {
	if r, ok := node.Local(m.conf, 0, 0, a.lun, a.cdb); ok {
		return r
	}
	x, ofLog, r := node.Cmd(m.conf, a.lun, a.cdb, a.data)
	if ofLog && r.Status != api.Good {
		return r
	}
	if !ofLog {
		if !m.s.Pending(on, a.lun) {
			return m.read(on, a)
		}
		x = unit.Cmd{Kind: unit.Pop, Lun: a.lun}
	}
	m.seq++
	x.Nexus, x.Seq = on, m.seq
	r, _ = m.s.Do(x)
	return r
}

func (m *model) read(on int, a ask) api.Reply {
	x, _ := cdb.Parse(a.cdb)
	v := m.s.Resv(a.lun)
	switch {
	case x.Op == cdb.PrIn && x.Service == 0:
		var l []uint64
		for _, key := range v.Regs() {
			l = append(l, key)
		}
		b, _ := sense.Keys(v.Gen(), l)
		return api.Reply{Data: sense.Cut(b, x.Len)}
	case x.Op == cdb.PrIn && x.Service == 1:
		n, kind := v.Holder()
		key := v.Key(n)
		if kind >= 7 {
			key = 0
		}
		b, _ := sense.Holder(v.Gen(), key, kind)
		return api.Reply{Data: sense.Cut(b, x.Len)}
	case x.Op == cdb.PrIn:
		return api.Reply{Status: api.Check, Key: 5, Asc: 0x24}
	case x.Lba > 65535:
		return api.Reply{Status: api.Check, Key: 5, Asc: 0x21}
	}
	return m.s.Read(on, a.lun, int(x.Lba), x.Len)
}
