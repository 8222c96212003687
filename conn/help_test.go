package conn_test

import (
	"bytes"
	"reflect"
	"slices"
	"testing"

	"caisson/api"
	"caisson/conn"
	"caisson/pdu"
	"caisson/text"
)

const none = 0xffffffff

// peer is an initiator, and the session that the target has with it.
type peer struct {
	t *testing.T
	c *conn.Conn
	o pdu.Opts // by which it writes and reads
}

func newPeer(t *testing.T) *peer {
	t.Helper()
	c, e := conn.New("t")
	if e != api.OK || c == nil {
		t.Fatal("New:", e)
	}
	return &peer{t: t, c: c, o: pdu.Opts{Most: 65536}}
}

// fullPeer is logged in by pairs beside the names; the window begins at 100, the next status number is 2.
func fullPeer(t *testing.T, more ...string) *peer {
	t.Helper()
	x := newPeer(t)
	l := x.say(login(0x87, slices.Concat([]string{"InitiatorName", "i", "TargetName", "t"}, more)...))
	if len(l) != 1 || l[0].Op != 35 || l[0].Flags != 0x87 || l[0].W[4] != 0 || x.c.Stage() != conn.Full {
		t.Fatalf("login: %+v", l)
	}
	for i := 0; i < len(more); i += 2 {
		x.o.HeadSum = x.o.HeadSum || more[i] == "HeaderDigest" && more[i+1] == "CRC32C"
		x.o.DataSum = x.o.DataSum || more[i] == "DataDigest" && more[i+1] == "CRC32C"
	}
	return x
}

func (x *peer) bytes(l ...pdu.Pdu) []byte {
	x.t.Helper()
	var all []byte
	for _, p := range l {
		b, e := pdu.Put(p, x.o)
		if e != api.OK {
			x.t.Fatal("Put:", e)
		}
		all = append(all, b...)
	}
	return all
}

func (x *peer) feed(b []byte) {
	x.t.Helper()
	if e := x.c.Feed(b); e != api.OK {
		x.t.Fatal("Feed:", e)
	}
}

// hear is the letters that are sent.
func (x *peer) hear() []pdu.Pdu {
	x.t.Helper()
	r, _ := pdu.New(x.o)
	var l []pdu.Pdu
	for b := x.c.Out(); len(b) > 0; {
		n := min(len(b), 65536)
		r.Feed(b[:n])
		b = b[n:]
		for {
			p, e, ok := r.Next()
			if !ok {
				break
			}
			if e != api.OK {
				x.t.Fatal("a letter that is sent:", e)
			}
			l = append(l, p)
		}
	}
	if r.Left() != 0 {
		x.t.Fatal("half a letter is sent:", r.Left())
	}
	return l
}

// say sends letters, and hears what comes of them.
func (x *peer) say(l ...pdu.Pdu) []pdu.Pdu {
	x.t.Helper()
	x.feed(x.bytes(l...))
	return x.hear()
}

// asks sends a letter and holds what comes of it against letters.
func (x *peer) asks(p pdu.Pdu, want ...pdu.Pdu) {
	x.t.Helper()
	x.heard(x.say(p), want...)
}

func (x *peer) heard(got []pdu.Pdu, want ...pdu.Pdu) {
	x.t.Helper()
	if len(got) != len(want) {
		x.t.Fatalf("%d letters: %+v, not %d: %+v", len(got), got, len(want), want)
	}
	for i := range got {
		if !same(got[i], want[i]) {
			x.t.Fatalf("the letter %d: %+v, not %+v", i, got[i], want[i])
		}
	}
}

// shows holds the session against its stage, its tasks and the bytes that it keeps.
func (x *peer) shows(stage, tasks, kept int) {
	x.t.Helper()
	if c := x.c; c.Stage() != stage || c.Tasks() != tasks || c.Kept() != kept {
		x.t.Fatalf("stage %d, %d tasks, %d kept; not %d, %d, %d", c.Stage(), c.Tasks(), c.Kept(), stage, tasks, kept)
	}
}

// does takes the next command, of these data.
func (x *peer) does(data []byte) conn.Do {
	x.t.Helper()
	d, ok := x.c.Next()
	if !ok || !bytes.Equal(d.Data, data) || len(d.Cdb) != 16 {
		x.t.Fatalf("Next: %+v %v, not with %d data", d, ok, len(data))
	}
	return d
}

// idle asks for a command where there is none.
func (x *peer) idle() {
	x.t.Helper()
	if d, ok := x.c.Next(); ok || !reflect.DeepEqual(d, conn.Do{}) {
		x.t.Fatalf("Next: %+v %v, not none", d, ok)
	}
}

func (x *peer) answers(id int64, r api.Reply, want ...pdu.Pdu) {
	x.t.Helper()
	if e := x.c.Answer(id, r); e != api.OK {
		x.t.Fatal("Answer:", e)
	}
	x.heard(x.hear(), want...)
}

// isClosed holds a closed session against all that it answers.
func (x *peer) isClosed() {
	x.t.Helper()
	for range 2 {
		x.shows(conn.Closed, 0, 0)
		x.idle()
		for _, b := range [][]byte{nil, make([]byte, 48), make([]byte, 131073)} {
			if e := x.c.Feed(b); e != api.ErrDead {
				x.t.Fatal("Feed of a closed one:", e)
			}
		}
		for id := range int64(70) {
			if e := x.c.Answer(id, api.Reply{}); e != api.ErrState {
				x.t.Fatal("Answer of a closed one:", e)
			}
		}
		x.heard(x.hear())
	}
}

// same holds two letters against each other; no data are nil or not.
func same(a, b pdu.Pdu) bool {
	if !bytes.Equal(a.Data, b.Data) {
		return false
	}
	a.Data, b.Data = nil, nil
	return reflect.DeepEqual(a, b)
}

// words are pairs as bytes.
func words(l ...string) []byte {
	var b []byte
	for i := 0; i < len(l); i += 2 {
		b = append(b, l[i]+"="+l[i+1]+"\x00"...)
	}
	return b
}

func pairsOf(t *testing.T, b []byte) []text.Pair {
	t.Helper()
	l, e := text.Get(b)
	if e != api.OK {
		t.Fatalf("%q: %v", b, e)
	}
	return l
}

// login is a login's letter, as it should be; W1 is 100.
func login(flags int, pairs ...string) pdu.Pdu {
	p := pdu.Pdu{Op: 3, Now: true, Flags: flags, Lun: 0x123456789abcdef0, Task: 77, Data: words(pairs...)}
	p.W[1] = 100
	return p
}

// nop is a NOP-Out with a number.
func nop(n, task uint32, data ...byte) pdu.Pdu {
	p := pdu.Pdu{Op: 0, Flags: 0x80, Lun: 5, Task: task, Data: data}
	p.W[0], p.W[1] = none, n
	return p
}

// now is a letter that comes now.
func now(p pdu.Pdu) pdu.Pdu {
	p.Now = true
	return p
}

// cmd is a command with a number; its sixteen bytes are 1, 2, 3, ..
func cmd(n uint32, flags int, task uint32, length uint32, data ...byte) pdu.Pdu {
	p := pdu.Pdu{Op: 1, Flags: flags, Lun: 2 << 48, Task: task, Data: data}
	p.W = [7]uint32{length, n, 0, 0x01020304, 0x05060708, 0x090a0b0c, 0x0d0e0f10}
	return p
}

// out is a Data-Out: its tag, its number, its place.
func out(flags int, task, tag, n, at uint32, data ...byte) pdu.Pdu {
	p := pdu.Pdu{Op: 5, Flags: flags, Task: task, Data: data}
	p.W[0], p.W[4], p.W[5] = tag, n, at
	return p
}

// back is a letter of the target with status, Expected and Highest.
func back(op, b2 int, task, status, expected, highest uint32, data ...byte) pdu.Pdu {
	p := pdu.Pdu{Op: op, Flags: 0x80, B2: b2, Task: task, Data: data}
	p.W[1], p.W[2], p.W[3] = status, expected, highest
	return p
}

// word is a letter with one of its words.
func word(p pdu.Pdu, i int, n uint32) pdu.Pdu {
	p.W[i] = n
	return p
}

// refused is the reject of a letter.
func refused(t *testing.T, p pdu.Pdu, reason int, status, expected, highest uint32) pdu.Pdu {
	t.Helper()
	p.Data = nil
	head, e := pdu.Put(p, pdu.Opts{Most: 48})
	if e != api.OK || len(head) != 48 {
		t.Fatal("Put:", e)
	}
	return back(63, reason, none, status, expected, highest, head...)
}

// r2t asks for more data.
func r2t(p pdu.Pdu, tag, status, expected, highest, n, at, more uint32) pdu.Pdu {
	return pdu.Pdu{Op: 49, Flags: 0x80, Lun: p.Lun, Task: p.Task, W: [7]uint32{tag, status, expected, highest, n, at, more}}
}

// count is n bytes from first on.
func count(first byte, n int) []byte {
	b := make([]byte, n)
	for i := range b {
		b[i] = first + byte(i%251)
	}
	return b
}

// twin is a session beside its model.
type twin struct {
	t     *testing.T
	c     *conn.Conn
	m     *model
	ids   map[int64]bool // all that Next has told
	doing []*modelTask
}

func newTwin(t *testing.T, name string) *twin {
	t.Helper()
	c, e := conn.New(name)
	if e != api.OK {
		t.Fatal(e)
	}
	return &twin{t: t, c: c, m: newModel(name), ids: map[int64]bool{}}
}

func (x *twin) feed(b []byte) {
	x.t.Helper()
	want := x.m.feed(b)
	if e := x.c.Feed(b); e != want {
		x.t.Fatalf("Feed of %d bytes: %v, not %v", len(b), e, want)
	}
	x.holds()
}

// holds holds all that is to be seen against the model.
func (x *twin) holds() {
	x.t.Helper()
	c, m := x.c, x.m
	if b := c.Out(); !bytes.Equal(b, m.out) {
		x.t.Fatalf("sent:\n% x\nnot:\n% x", b, m.out)
	}
	m.out = nil
	if b := c.Out(); len(b) != 0 {
		x.t.Fatalf("sent twice: % x", b)
	}
	if c.Stage() != m.stage || c.Initiator() != m.agreed.Initiator || c.Tasks() != len(m.tasks) || c.Kept() != m.kept() {
		x.t.Fatalf("stage %d, initiator %q, %d tasks, %d kept; not %d, %q, %d, %d", c.Stage(), c.Initiator(), c.Tasks(), c.Kept(), m.stage, m.agreed.Initiator, len(m.tasks), m.kept())
	}
	if c.Kept() > 1<<20 {
		x.t.Fatal("kept:", c.Kept())
	}
}

// next takes the next command; false, if there is none.
func (x *twin) next() bool {
	x.t.Helper()
	want, task := x.m.next()
	d, ok := x.c.Next()
	if ok != (task != nil) || d.Lun != want.Lun || !bytes.Equal(d.Cdb, want.Cdb) || !bytes.Equal(d.Data, want.Data) {
		x.t.Fatalf("Next: %+v %v, not %+v", d, ok, want)
	}
	if !ok {
		return false
	}
	if x.ids[d.Id] {
		x.t.Fatal("a number twice:", d.Id)
	}
	x.ids[d.Id] = true
	task.id = d.Id
	x.doing = append(x.doing, task)
	clear(d.Cdb) // it is new memory
	clear(d.Data)
	x.holds()
	return true
}

// answer answers a command that Next has told, as far as it is a task yet.
func (x *twin) answer(i int, r api.Reply) {
	x.t.Helper()
	task := x.doing[i]
	x.doing = slices.Delete(x.doing, i, i+1)
	want := api.ErrState
	if slices.Contains(x.m.tasks, task) {
		want = api.OK
		x.m.answer(task, r)
	}
	data := slices.Clone(r.Data)
	if e := x.c.Answer(task.id, r); e != want {
		x.t.Fatalf("Answer: %v, not %v", e, want)
	}
	if !bytes.Equal(data, r.Data) {
		x.t.Fatal("Answer changes its data")
	}
	x.holds()
	if e := x.c.Answer(task.id, r); e != api.ErrState {
		x.t.Fatalf("Answer again: %v", e)
	}
	x.holds()
}
