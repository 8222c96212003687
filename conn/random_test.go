package conn_test

import (
	"bytes"
	"fmt"
	"math/rand"
	"slices"
	"strconv"
	"testing"

	"caisson/api"
	"caisson/conn"
	"caisson/pdu"
)

// chance is letters at random, most of them such as a session takes; it looks at the model for what would be right.
type chance struct {
	*rand.Rand
	m *model
}

func (r chance) one(l ...uint32) uint32 { return l[r.Intn(len(l))] }

func (r chance) some(n int) []byte {
	b := make([]byte, n)
	r.Read(b)
	return b
}

// login is a login's letter for the stage of the session.
func (r chance) login() pdu.Pdu {
	flags := 4 * r.m.stage
	switch {
	case !r.m.there && r.Intn(2) == 0:
		flags = 0x87
	case r.Intn(2) == 0:
		flags |= 0x83
	case r.m.stage == conn.Security && r.Intn(2) == 0:
		flags |= 0x81
	}
	if r.Intn(30) == 0 {
		flags = r.Intn(256)
	}
	var pairs []string
	if !r.m.there {
		pairs = []string{"InitiatorName", "i" + strconv.Itoa(r.Intn(10)), "TargetName", "t"}
	}
	for range r.Intn(4) {
		if x := r.offer(); !slices.Contains(pairs, x[0]) {
			pairs = append(pairs, x...)
		}
	}
	if r.Intn(20) == 0 {
		for i := range 61 + r.Intn(5) - len(pairs)/2 {
			pairs = append(pairs, fmt.Sprint("K", i), "v")
		}
	}
	p := pdu.Pdu{Op: 3, Now: r.Intn(60) > 0, Flags: flags, Lun: r.Uint64(), Task: r.Uint32(), Data: words(pairs...)}
	if r.Intn(60) == 0 {
		p.B3 = r.Intn(256)
	}
	p.W[1] = r.one(0, 5, 1<<32-1, 1<<32-20, 1<<31-10)
	return p
}

func (r chance) offer() []string {
	l := [][]string{
		{"HeaderDigest", "CRC32C"}, {"HeaderDigest", "None,CRC32C"}, {"DataDigest", "CRC32C,None"}, {"DataDigest", "Z"},
		{"MaxBurstLength", "512"}, {"MaxBurstLength", "1000"}, {"FirstBurstLength", "512"}, {"FirstBurstLength", "16777215"},
		{"MaxRecvDataSegmentLength", "512"}, {"MaxRecvDataSegmentLength", "100000"}, {"ImmediateData", "Yes"},
		{"ImmediateData", "No"}, {"InitialR2T", "No"}, {"SessionType", "Discovery"}, {"X", "Y"}, {"InitiatorAlias", ""},
	}
	if r.Intn(40) == 0 {
		return [][]string{{"TargetName", "u"}, {"MaxBurstLength", "5"}, {"", "1"}, {"InitiatorName", ""}}[r.Intn(4)]
	}
	return l[r.Intn(len(l))]
}

// task is a Task: mostly of one that is there, or of few.
func (r chance) task() uint32 {
	if n := len(r.m.tasks); n > 0 && r.Intn(2) == 0 {
		return r.m.tasks[r.Intn(n)].p.Task
	}
	return r.one(none, none-1, 0, 1, uint32(r.Intn(1000)), uint32(r.Intn(1000)), uint32(r.Intn(1000)))
}

// number is one for the window: mostly the next.
func (r chance) number() uint32 {
	switch r.Intn(8) {
	case 0:
		return r.m.expected + uint32(r.Intn(36)) - 2
	case 1, 2:
		return r.m.expected + uint32(r.Intn(3))
	}
	return r.m.expected
}

func (r chance) command() pdu.Pdu {
	p := pdu.Pdu{Op: 1, Flags: 0x80 | int(r.one(0, 0x20, 0x20, 0x40)), Lun: uint64(r.Intn(4)) << 48, Task: uint32(r.Intn(100000))}
	for i := range p.W {
		p.W[i] = r.Uint32()
	}
	p.W[0] = r.one(0, 1, 3, 512, 513, 1000, 4096, uint32(r.Intn(4097)), uint32(r.Intn(100)))
	if !r.m.agreed.Asked && p.Flags&0x20 != 0 && r.Intn(2) == 0 {
		p.Flags &^= 0x80
	}
	if p.Flags&0x20 != 0 && r.m.agreed.Immediate && r.Intn(2) == 0 {
		p.Data = r.some(r.Intn(min(int(p.W[0]), r.m.agreed.First) + 1))
	}
	switch r.Intn(60) {
	case 0:
		p.Flags ^= 1 << r.Intn(8)
	case 1:
		p.W[0] = r.one(4097, 100000, none)
	case 2:
		p.Data = r.some(r.Intn(700))
	case 3:
		p.Task = r.task()
	case 4:
		p.Lun = r.Uint64()
	}
	return p
}

// data is a Data-Out: mostly the next one of a task that collects.
func (r chance) data() pdu.Pdu {
	p := pdu.Pdu{Op: 5, Task: r.task(), Flags: int(r.one(0, 0x80)), Lun: r.Uint64()}
	var l []*modelTask
	for _, x := range r.m.tasks {
		if x.state == "asked" || x.state == "unasked" {
			l = append(l, x)
		}
	}
	if len(l) == 0 {
		return p
	}
	x := l[r.Intn(len(l))]
	n := x.most - len(x.data)
	if r.Intn(2) == 0 {
		n = r.Intn(n + 1)
	}
	p.Task, p.Flags, p.Data = x.p.Task, r.Intn(128), r.some(n)
	p.W[0], p.W[4], p.W[5] = none, x.came, uint32(len(x.data))
	if x.state == "asked" {
		p.W[0] = x.tag
	}
	if n == x.most-len(x.data) && x.state == "asked" || x.state == "unasked" && r.Intn(4) == 0 {
		p.Flags |= 0x80
	}
	switch r.Intn(20) {
	case 0:
		p.W[r.one(0, 4, 5)] += r.one(1, none, r.Uint32())
	case 1:
		p.Flags ^= 0x80
	case 2:
		p.Data = append(p.Data, r.some(1+r.Intn(9))...)
	case 3:
		p.Task = r.task()
	}
	return p
}

// letter is any letter for the session as it is.
func (r chance) letter() pdu.Pdu {
	if r.m.stage != conn.Full {
		if r.Intn(100) > 0 {
			return r.login()
		}
	}
	p := pdu.Pdu{Flags: int(r.one(0x80, 0x80, 0x80, uint32(r.Intn(256)))), Lun: r.Uint64(), Task: r.task()}
	p.W[0] = none
	switch k := r.Intn(100); {
	case k < 45:
		p = r.command()
	case k < 75:
		return r.data()
	case k < 83:
		p.Data = r.some(int(r.one(0, 5, 511, 512, 513, uint32(r.Intn(8193)))))
	case k < 90:
		p.Op, p.W[0] = 2, r.task()
		p.Flags = int(r.one(1, 0x81, 0x81, 0x82, 0x00))
	case k < 96:
		p.Op = 4
		p.Data = words(slices.Concat([]string{"SendTargets", []string{"All", "", "t", "u"}[r.Intn(4)]}, r.offer())...)
		if r.Intn(10) == 0 {
			p.W[0] = r.Uint32()
		}
	case k < 97:
		return r.login()
	case k < 98 && r.Intn(3) == 0:
		p.Op = 6
	default:
		p.Op = r.Intn(64)
		p.Data = r.some(r.Intn(20))
		if p.Op == 6 {
			p.Op = 7
		}
	}
	p.Now, p.W[1] = r.Intn(5) == 0, r.number()
	return p
}

// bytes is a letter's bytes, now and then with a fault.
func (r chance) bytes(p pdu.Pdu) []byte {
	o := r.m.o
	b, e := pdu.Put(p, o)
	if e != api.OK {
		panic("a letter can not be put")
	}
	if r.Intn(40) == 0 && len(p.Data)%4 != 0 {
		b[len(b)-1] ^= byte(1 + r.Intn(255)) // of the 0 behind the data, or of their digest
	}
	if r.Intn(1500) == 0 {
		b[r.Intn(len(b))] ^= 1 << r.Intn(8)
	}
	return b
}

func (r chance) reply() api.Reply {
	x := api.Reply{Status: int(r.one(0, 0, 0, 2, 8, 24, 40, 258)), Key: r.Intn(17), Asc: r.Intn(256), Ascq: r.Intn(256)}
	x.Data = r.some(int(r.one(0, 1, 511, 512, 513, 1000, 4096, 9000, uint32(r.Intn(5000)))))
	return x
}

// P20.1 to P20.8: sessions at random, step by step, against the model.
func TestAtRandom(t *testing.T) {
	rnd := rand.New(rand.NewSource(20))
	seen := map[string]int{}
	for round := range 600 {
		x := newTwin(t, "t")
		r := chance{rnd, x.m}
		lazy := rnd.Intn(4) == 0 // lets tasks pile up
		for range 400 {
			switch k := r.Intn(10); {
			case k < 7 || lazy && k < 9 && len(x.m.tasks) < 64 || lazy && k < 9 && r.Intn(3) > 0:
				b := r.bytes(r.letter())
				if r.Intn(3) > 0 {
					at := r.Intn(len(b) + 1)
					x.feed(b[:at])
					b = b[at:]
				}
				x.feed(b)
			case k < 8:
				x.next()
			case len(x.doing) > 0:
				x.answer(r.Intn(len(x.doing)), r.reply())
			}
			if x.m.stage == conn.Full && x.m.agreed.Asked && round%2 == 0 {
				x.m.agreed.Asked = false
				conn.Unasked(x.c)
			}
			if x.m.stage == conn.Closed && r.Intn(10) == 0 {
				break
			}
		}
		for k, n := range x.m.seen {
			seen[k] += n
		}
	}
	for _, k := range []string{
		"dead", "no login", "fail", "full feature", "nop none", "nop cut", "out of the window", "twice", "several turns", "logout", "targets",
		"abort unasked", "abort asked", "abort to do", "abort doing", "task full", "command check", "unasked", "second r2t", "data unasked", "data asked",
		"several data-in", "more", "fewer", "no sense",
		"reject sum", "reject form", "reject login", "reject operation", "reject text", "reject same task", "reject data without writing", "reject data not immediate",
		"reject data beyond First", "reject data beyond length", "reject no F without writing", "reject no F where asked", "reject data without task",
		"reject tag", "reject data's number", "reject data's place", "reject too many data", "reject last",
	} {
		if seen[k] < 5 {
			t.Error("too few:", k, seen[k])
		}
	}
}

// P20.7: bytes of no meaning, ahead of Full and in it: nothing panics, and all is as the model says.
func TestNoise(t *testing.T) {
	rnd := rand.New(rand.NewSource(21))
	for range 3000 {
		x := newTwin(t, "t")
		r := chance{rnd, x.m}
		if r.Intn(4) > 0 {
			p := login(0x87, append([]string{"InitiatorName", "i", "TargetName", "t"}, r.offer()...)...)
			b, _ := pdu.Put(p, pdu.Opts{Most: 8192})
			x.feed(b)
		}
		for range 6 {
			b := r.some(r.Intn(300))
			if len(b) > 8 && r.Intn(5) > 0 { // a head that can be, of a letter that ends soon
				b[0], b[4], b[5], b[6] = b[0]%8, 0, 0, 0
			}
			x.feed(b)
		}
		if r.Intn(20) == 0 {
			x.feed(make([]byte, 131073))
		}
		x.next()
	}
}

// stream is a session's bytes, letter by letter, as a model takes them, until there are about so many, and what is sent then.
func stream(rnd *rand.Rand, size int) ([]byte, *model) {
	m := newModel("t")
	r := chance{rnd, m}
	var all []byte
	for len(all) < size && m.stage != conn.Closed {
		b := r.bytes(r.letter())
		m.feed(b)
		all = append(all, b...)
	}
	return all, m
}

// P20.7: the same bytes in pieces of every size, one behind the other: the answers are the same, and so is what is to be done.
func TestPieces(t *testing.T) {
	rnd := rand.New(rand.NewSource(22))
	full := 0
	for range 60 {
		all, m := stream(rnd, 3000+rnd.Intn(60000))
		if m.stage == conn.Full {
			full++
		}
		sizes := []int{1, 2, 3, 5, 47, 48, 49, 52, 100, 1000, 8192, len(all)}
		for range 5 {
			sizes = append(sizes, 1+rnd.Intn(200))
		}
		var dos []conn.Do
		for {
			d, x := m.next()
			if x == nil {
				break
			}
			dos = append(dos, d)
		}
		for _, size := range sizes {
			c, _ := conn.New("t")
			var out []byte
			for piece := range slices.Chunk(all, size) {
				e := c.Feed(piece)
				if e != api.OK && c.Stage() != conn.Closed {
					t.Fatal(e)
				}
				if rnd.Intn(2) == 0 {
					out = append(out, c.Out()...)
				}
			}
			out = append(out, c.Out()...)
			if !bytes.Equal(out, m.out) || c.Stage() != m.stage || c.Tasks() != len(m.tasks) || c.Kept() != m.kept() || c.Initiator() != m.agreed.Initiator {
				t.Fatalf("in pieces of %d: stage %d, %d tasks, %d kept, %d sent", size, c.Stage(), c.Tasks(), c.Kept(), len(out))
			}
			for _, want := range dos {
				d, ok := c.Next()
				if !ok || d.Lun != want.Lun || !bytes.Equal(d.Cdb, want.Cdb) || !bytes.Equal(d.Data, want.Data) {
					t.Fatalf("%+v %v, not %+v", d, ok, want)
				}
			}
			if _, ok := c.Next(); ok {
				t.Fatal("one more")
			}
		}
	}
	if full < 10 {
		t.Error("too few in Full:", full)
	}
}

// P20.7: as many bytes as a session can be made to keep.
func TestMostKept(t *testing.T) {
	x := newTwin(t, "t")
	b, _ := pdu.Put(login(0x87, "InitiatorName", "i", "TargetName", "t"), pdu.Opts{Most: 8192})
	x.feed(b)
	say := func(p pdu.Pdu) {
		t.Helper()
		b, _ := pdu.Put(p, pdu.Opts{Most: 8192})
		x.feed(b)
	}
	for i := range uint32(64) {
		say(now(cmd(0, 0xa0, i, 4096, count(1, 4096)...)))
	}
	for i := range uint32(31) {
		say(nop(101+i, 5, count(1, 8192)...))
	}
	say(nop(132, 5, count(1, 8192)...))
	b, _ = pdu.Put(now(nop(0, 5, count(1, 8192)...)), pdu.Opts{Most: 8192})
	x.feed(b[:len(b)-1])
	if want := 64*4096 + 31*8192 + 48 + 8191; x.c.Kept() != want || want > 1<<20 {
		t.Errorf("%d kept, not %d", x.c.Kept(), want)
	}
}

// P20.8: commands that write nothing, in any order and twice: each is told once, in the order of its number.
func TestInTheirOrder(t *testing.T) {
	rnd := rand.New(rand.NewSource(23))
	for _, first := range []uint32{0, 100, 1<<32 - 5, 1<<31 - 3} {
		x := newPeer(t)
		p := login(0x87, "InitiatorName", "i", "TargetName", "t")
		p.W[1] = first
		x.say(p)
		next := uint32(0)
		var doing []int64
		for next < 500 {
			i := next + uint32(rnd.Intn(35)) - 1
			if rnd.Intn(3) == 0 {
				i = next
			}
			x.say(cmd(first+i, int(0x80|rnd.Intn(2)<<6), i, i))
			for rnd.Intn(4) > 0 {
				d, ok := x.c.Next()
				if !ok {
					break
				}
				doing = append(doing, d.Id)
				if l := x.hear(); len(l) != 0 {
					t.Fatal(l)
				}
				next++
				// its response tells which it was
				if e := x.c.Answer(d.Id, api.Reply{Status: api.Busy}); e != api.OK {
					t.Fatal(e)
				}
				if l := x.hear(); len(l) != 1 || l[0].Task != next-1 {
					t.Fatalf("%+v, not %d", l, next-1)
				}
			}
		}
		slices.Sort(doing)
		if len(slices.Compact(doing)) != int(next) {
			t.Error("numbers twice")
		}
	}
}

// P20.8: one that waits for data lets others pass; those that have theirs go in the order in which they became so.
func TestOthersPass(t *testing.T) {
	x := fullPeer(t)
	a, b, c := cmd(100, 0xa0, 1, 4), cmd(101, 0xa0, 2, 4), cmd(102, 0x80, 3, 0)
	x.say(a, b, c)
	x.asks(out(0x80, 2, 2, 0, 0, 5, 6, 7, 8))
	x.asks(cmd(103, 0x80, 4, 0))
	x.asks(out(0x80, 1, 1, 0, 0, 1, 2, 3, 4))
	var ids []int64
	for _, data := range [][]byte{nil, {5, 6, 7, 8}, nil, {1, 2, 3, 4}} {
		ids = append(ids, x.does(data).Id)
	}
	x.idle()
	for i, task := range []uint32{3, 2, 4, 1} {
		x.answers(ids[i], api.Reply{}, ended(0x80, 0, task, uint32(2+i), 104, uint32(132+i), 0, 0))
	}
}
