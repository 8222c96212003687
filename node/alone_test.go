package node_test

import (
	"bytes"
	"encoding/binary"
	"math"
	"math/rand"
	"slices"
	"testing"

	"caisson/api"
	"caisson/cdb"
	"caisson/conn"
	"caisson/pdu"
	"caisson/unit"
)

// P21.3: the first example.
func TestFirstExample(t *testing.T) {
	k := newDesk(t, 0, confOf(1, 1, 8, 1))
	k.ticks(20)
	if r := k.told(3, write(5, 1, 77)); !is(r, api.Good, 0, 0, 0) || len(r.Data) != 0 {
		t.Fatal(r)
	}
	if b := k.good(3, read(5, 1)); !bytes.Equal(b, fill(77, 1)) {
		t.Errorf("% x", b)
	}
	if b := k.good(4, read(4, 3)); !bytes.Equal(b, slices.Concat(fill(0, 1), fill(77, 1), fill(0, 1))) {
		t.Errorf("% x", b)
	}
}

// P21.3: it leads behind twenty ticks, whatever it draws, and also behind a crash; ahead of that it stands by.
func TestAloneLeads(t *testing.T) {
	for n := range 30 {
		k := newDesk(t, 0, confOf(1, 1, 8, 4))
		for range 3 {
			k.x.Draw(n)
			if r := k.told(3, read(0, 1)); !standing(r) {
				t.Fatal(r)
			}
			k.ticks(20)
			i := k.x.Info()
			if i.Role != api.Leader || i.Commit != k.x.Top() || k.x.Applied() != k.x.Top() || i.Voted != 0 {
				t.Fatal(n, i)
			}
			k.good(3, read(0, 1))
			if len(k.sent()) != 0 {
				t.Fatal("it has nobody to send to")
			}
			k.crash()
			if k.x.Info().Term != i.Term || k.x.Info().Role != api.Follower || k.x.Top() < i.Commit {
				t.Fatal(k.x.Info(), i)
			}
		}
	}
}

// anyAsk is some command, of those that can be and of those that can not.
func anyAsk(r *rand.Rand, units, blocks int) ask {
	lba, n := r.Intn(blocks+1), r.Intn(4)
	var a ask
	switch r.Intn(18) {
	case 0, 1, 2:
		a = write(lba, n, byte(r.Intn(256)))
	case 3:
		a = write(r.Intn(70000), r.Intn(35), byte(r.Intn(256)))
	case 4:
		a = ask{cdb: build(cdb.Cdb{Op: cdb.Write16, Lba: uint64(lba), Len: n}), data: fill(byte(r.Intn(256)), n)}
	case 5:
		a = ask{cdb: build(cdb.Cdb{Op: cdb.Read16, Lba: uint64(lba), Len: n})}
	case 6, 7, 8:
		a = read(lba, n)
	case 9:
		a = read(r.Intn(70000), r.Intn(70))
	case 10:
		a = unmap(cdb.Range{Lba: uint64(lba), N: n}, cdb.Range{Lba: uint64(r.Intn(blocks)), N: 1})
	case 11:
		a = ask{cdb: simple(operations[r.Intn(len(operations))])}
	case 12:
		a = keys(r.Intn(4), r.Intn(60))
	case 13:
		a = ready()
	case 14:
		a = write(lba, 1, 9)
		a.cdb[r.Intn(16)] ^= byte(1 << r.Intn(8))
		if a.cdb[0] == cdb.Read10 { // what comes with data is not read
			a.data = nil
		}
	default:
		actions := []int{0, 0, 1, 1, 2, 3, 4, 4, 6, 6, 6, 6, 5, 31}
		kinds := []int{1, 3, 5, 6, 7, 8, 0}
		a = reserve(actions[r.Intn(len(actions))], kinds[r.Intn(len(kinds))], uint64(r.Intn(3)), uint64(r.Intn(3)))
	}
	a.lun = r.Intn(units+1) - r.Intn(2)*r.Intn(2)
	return a
}

// could are the models that explain what was answered: where an answer is missing, a command was done or not.
type could []*model

func (l could) copies() could {
	var out could
	for _, m := range l {
		out = append(out, &model{conf: m.conf, s: m.s.Copy(), seq: m.seq})
	}
	return out
}

// answered keeps those that answer as it was told.
func (l could) answered(on int, a ask, r api.Reply) could {
	return slices.DeleteFunc(l, func(m *model) bool { return !sameReply(m.do(on, a), r) })
}

// unanswered are those that have not done it, and those that have.
func (l could) unanswered(on int, a ask) could {
	done := l.copies()
	for _, m := range done {
		m.do(on, a)
	}
	return append(l, done...)
}

// visible is the bytes of a state but for the answers that are kept: these have numbers of their own.
func visible(s *unit.State) []byte {
	b := s.Bytes()
	at := 3
	for range s.Units() {
		at += 4 + int(binary.BigEndian.Uint32(b[at:]))
		at += 2 + int(binary.BigEndian.Uint16(b[at:]))
		for range 16 {
			at += 1 + int(b[at])
		}
	}
	return b[:at]
}

// seen keeps one of those that are as the machine is.
func (l could) seen(s *unit.State) could {
	l = slices.DeleteFunc(l, func(m *model) bool { return !bytes.Equal(visible(m.s), visible(s)) })
	return l[:min(1, len(l))]
}

// P21.3 (P2, P3): a machine alone answers as the units do, one command after another, also where flushes fail and its disk crashes, whatever it keeps.
func TestAloneAtRandom(t *testing.T) {
	for seed := range int64(60) {
		r := rand.New(rand.NewSource(seed))
		c := confOf(1, 1+r.Intn(3), 1+r.Intn(64), 1+r.Intn(4))
		k := alone(t, c)
		l := could{newModel(c)}
		for n := range 150 {
			if r.Intn(12) == 0 {
				k.disk.Fail()
			}
			on, a := r.Intn(3), anyAsk(r, c.Units, c.Blocks)
			x := k.send(on, a)
			if x.told {
				l = l.answered(on, a, x.r)
			} else {
				if !k.x.Dead() {
					t.Fatalf("seed %d, %d: %x is not answered", seed, n, a.cdb)
				}
				l = l.unanswered(on, a)
			}
			if len(l) == 0 {
				t.Fatalf("seed %d, %d: %x of %d by %d: %+v", seed, n, a.cdb, a.lun, on, x.r)
			}
			if k.x.Dead() || r.Intn(20) == 0 {
				k.crash(r.Intn(1<<16), r.Intn(1<<16), -1, r.Intn(1<<16), 0, r.Intn(1<<16))
				k.ticks(20)
				if l = l.seen(k.x.State()); len(l) == 0 {
					t.Fatalf("seed %d, %d: behind the crash it has something else", seed, n)
				}
			}
		}
		if k.x.Waits() != 0 {
			t.Fatal(k.x.Waits())
		}
	}
}

// P21.3 (P3): what was answered Good is there behind a crash that keeps all, some, or nothing of what was not flushed.
func TestGoodIsThere(t *testing.T) {
	for _, kept := range [][]int{nil, {-1, -1, -1, -1}, {1, 2, 4, 8}, {0, -1}, {-1, 0, -1}} {
		k := alone(t, confOf(1, 2, 64, 2))
		for n := range 60 { // more than two images
			k.good(1, write(n, 1, byte(n+1)))
			if n%7 == 3 {
				k.disk.Fail()
				if x := k.send(1, write(n, 1, 200)); x.told || !k.x.Dead() {
					t.Fatal("it was not safe", x.r)
				}
			}
			if n%3 == 0 || k.x.Dead() {
				k.crash(kept...)
				k.ticks(20)
			}
			if b := k.good(2, read(n, 1)); !bytes.Equal(b, fill(byte(n+1), 1)) && (n%7 != 3 || !bytes.Equal(b, fill(200, 1))) {
				t.Fatalf("%d: % x", n, b[:1])
			}
		}
		for n := range 60 {
			if b := k.good(2, read(n, 1)); !bytes.Equal(b, fill(byte(n+1), 1)) && n%7 != 3 {
				t.Fatalf("%d: % x", n, b[:1])
			}
		}
	}
}

// P21.3: many commands that come in one piece, and in pieces of any size.
func TestCommandsInPieces(t *testing.T) {
	for _, size := range []int{1 << 20, 1000, 49, 7, 1} {
		k := alone(t, confOf(1, 1, 64, 1))
		c := k.client(9)
		var l []pdu.Pdu
		var calls []*call
		for n := range 30 {
			p, x := c.letter(write(n, 1, byte(n+1)))
			q, y := c.letter(read(n, 1))
			l, calls = append(l, p), append(calls, x, y)
			if n < 2 {
				l = append(l, q)
			} else {
				c.sn--
				delete(c.open, c.sn)
				calls = calls[:len(calls)-1]
			}
		}
		for b := range slices.Chunk(put(l...), size) {
			k.take(k.x.Bytes(9, b))
		}
		for i, x := range calls {
			if !x.told || x.r.Status != api.Good {
				t.Fatal(size, i, x)
			}
		}
		if !bytes.Equal(calls[1].r.Data, fill(1, 1)) || !bytes.Equal(calls[3].r.Data, fill(2, 1)) {
			t.Error("read something else")
		}
	}
}

// P21.1: connections at their bounds.
func TestConnections(t *testing.T) {
	k := alone(t, confOf(1, 1, 8, 1))
	for _, on := range []int{math.MinInt, -1, 16, 17, 255, math.MaxInt} {
		if l := k.x.Bytes(on, put(login())); len(l) != 0 || k.x.Stage(on) != 0 {
			t.Error(on, l)
		}
	}
	for on := range 16 {
		if k.x.Stage(on) != 0 {
			t.Error(on)
		}
		k.good(on, reserve(6, 0, 0, uint64(on+1))) // the number is the nexus
		if k.x.Stage(on) != conn.Full {
			t.Error(on)
		}
	}
	i := 0
	for nexus, key := range k.x.State().Resv(0).Regs() {
		if nexus != i || key != uint64(i+1) {
			t.Error(nexus, key)
		}
		i++
	}
	if i != 16 {
		t.Error(i)
	}
}

// What comes behind a session that is closed begins a new one; no bytes begin none.
func TestSessions(t *testing.T) {
	k := alone(t, confOf(1, 1, 8, 1))
	if l := k.x.Bytes(3, nil); len(l) != 0 || k.x.Stage(3) != 0 {
		t.Error(l)
	}
	junk := bytes.Repeat([]byte{0xff}, 48)
	for range 3 {
		k.good(3, write(1, 1, 5))
		k.good(4, write(1, 1, 6))
		k.take(k.x.Bytes(3, junk))
		if k.x.Stage(3) != conn.Closed || k.x.Stage(4) != conn.Full {
			t.Fatal(k.x.Stage(3), k.x.Stage(4))
		}
		if l := k.x.Bytes(3, []byte{}); len(l) != 0 || k.x.Stage(3) != conn.Closed {
			t.Error(l)
		}
	}
	k.take(k.x.Bytes(3, put(login())[:20])) // half a letter begins a session
	if k.x.Stage(3) != conn.Security {
		t.Error(k.x.Stage(3))
	}
	k.clients[5] = &client{reader: k.client(4).reader}
	p := login()
	p.Data = bytes.Replace(p.Data, []byte("iqn"), []byte("nqi"), 1)
	k.say(5, p)
	if l := k.clients[5].other; len(l) != 1 || l[0].W[4] != 515<<16 || k.x.Stage(5) != conn.Closed {
		t.Error(l, k.x.Stage(5))
	}
	k.client(6)
	k.say(6, pdu.Pdu{Op: 6, Now: true, Flags: 0x80, Task: 9})
	if l := k.clients[6].other; len(l) != 1 || l[0].Op != 38 || k.x.Stage(6) != conn.Closed {
		t.Error(l, k.x.Stage(6))
	}
	k.good(6, read(1, 1))
}
