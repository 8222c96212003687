package conn_test

import (
	"bytes"
	"math"
	"reflect"
	"slices"
	"strings"
	"testing"

	"caisson/api"
	"caisson/conn"
	"caisson/pdu"
)

// The stages have their numbers.
func TestStages(t *testing.T) {
	if conn.Security != 0 || conn.Talking != 1 || conn.Full != 3 || conn.Closed != 4 {
		t.Error(conn.Security, conn.Talking, conn.Full, conn.Closed)
	}
}

// P20.1: names at their bounds, of each byte, and wrong ones.
func TestNew(t *testing.T) {
	for c := range 256 {
		for _, s := range []string{string([]byte{byte(c)}), string([]byte{'a', byte(c)}), string([]byte{byte(c), 'a'}), strings.Repeat("a", 199) + string([]byte{byte(c)})} {
			x, e := conn.New(s)
			if ok := c >= 33 && c <= 126; ok && (e != api.OK || x == nil) || !ok && (e != api.ErrArg || x != nil) {
				t.Errorf("New of %q: %v", s, e)
			}
		}
	}
	for _, s := range []string{"", strings.Repeat("a", 201), strings.Repeat("a", 70000), "ä", "a b", "a\x00"} {
		if x, e := conn.New(s); x != nil || e != api.ErrArg {
			t.Errorf("New of %.9q: %v", s, e)
		}
	}
	x := newPeer(t)
	x.shows(conn.Security, 0, 0)
	x.idle()
	x.heard(x.hear())
	if x.c.Initiator() != "" {
		t.Error(x.c.Initiator())
	}
	for _, id := range []int64{math.MinInt64, -1, 0, 1, math.MaxInt64} {
		if e := x.c.Answer(id, api.Reply{}); e != api.ErrState {
			t.Error(e)
		}
	}
}

// P20.1: nil.
func TestNil(t *testing.T) {
	var c *conn.Conn
	if e := c.Feed([]byte("a")); e != api.ErrNil {
		t.Error(e)
	}
	if e := c.Answer(1, api.Reply{}); e != api.ErrNil {
		t.Error(e)
	}
	if d, ok := c.Next(); ok || !reflect.DeepEqual(d, conn.Do{}) {
		t.Error(d, ok)
	}
	if c.Out() != nil || c.Stage() != 0 || c.Initiator() != "" || c.Tasks() != 0 || c.Kept() != 0 {
		t.Error(c.Out(), c.Stage(), c.Initiator(), c.Tasks(), c.Kept())
	}
}

// P20.1: too many bytes close the session; just as many as may wait do not.
func TestTooManyBytes(t *testing.T) {
	x := newPeer(t)
	if e := x.c.Feed(make([]byte, 131073)); e != api.ErrFull {
		t.Fatal(e)
	}
	x.isClosed()

	x = fullPeer(t)
	all := bytes.Repeat(x.bytes(nop(0, none)), 131072/48)
	rest := make([]byte, 131072-len(all))
	x.feed(append(all, rest...))
	x.shows(conn.Full, 0, len(rest))
	if e := x.c.Feed(make([]byte, 131073-len(rest))); e != api.ErrFull {
		t.Fatal(e)
	}
	x.isClosed()

	x = fullPeer(t)
	x.feed(x.bytes(cmd(100, 0x80, 1, 0), nop(102, 3, 1, 2, 3)))
	x.shows(conn.Full, 1, 3)
	if e := x.c.Feed(make([]byte, 131073)); e != api.ErrFull {
		t.Fatal(e)
	}
	x.isClosed()
}

// P20.1: what is to be sent can be asked for behind a close, once; nothing is shared.
func TestOut(t *testing.T) {
	x := fullPeer(t)
	x.feed(x.bytes(nop(100, 5, 1, 2, 3), now(pdu.Pdu{Op: 6, Flags: 0x80, Task: 6}), nop(101, 7)))
	if x.c.Stage() != conn.Closed || x.c.Kept() != 0 {
		t.Fatal(x.c.Stage(), x.c.Kept())
	}
	a := back(32, 0, 5, 2, 101, 131, 1, 2, 3)
	a.Lun, a.W[0] = 5, none
	x.heard(x.hear(), a, back(38, 0, 6, 3, 101, 132))
	x.isClosed()

	x = fullPeer(t)
	in := x.bytes(nop(100, 5, 1, 2, 3))
	x.feed(in)
	clear(in)
	first := x.c.Out()
	second := slices.Clone(first)
	x.feed(x.bytes(nop(101, 5, 1, 2, 3)))
	_ = append(first, 9)
	clear(first)
	got := x.c.Out()
	second[27]++ // the status number
	second[31]++ // Expected
	second[35]++ // Highest
	if !bytes.Equal(got, second) {
		t.Fatalf("% x, not % x", got, second)
	}
}

// P20.2: a head that is wrong closes the session at every stage.
func TestDeadReader(t *testing.T) {
	wrong := map[string]func([]byte){
		"an additional head": func(b []byte) { b[4] = 1 },
		"bit 7":              func(b []byte) { b[0] |= 128 },
		"too many data":      func(b []byte) { b[6], b[7] = 0x20, 1 },
		"far too many data":  func(b []byte) { b[5] = 255 },
	}
	for name, f := range wrong {
		for _, x := range []*peer{newPeer(t), talkingPeer(t), fullPeer(t)} {
			b := x.bytes(login(0x87, "InitiatorName", "i", "TargetName", "t"))
			f(b)
			x.feed(b)
			if x.c.Stage() != conn.Closed {
				t.Fatal(name)
			}
			x.heard(x.hear())
			x.isClosed()
		}
	}
	x := fullPeer(t)
	x.feed(x.bytes(cmd(100, 0x80, 1, 0)))
	b := x.bytes(nop(101, 5))
	b[4] = 1
	x.feed(append(x.bytes(nop(101, 6)), b...))
	if l := x.hear(); len(l) != 1 || l[0].Task != 6 {
		t.Fatal(l)
	}
	x.isClosed()
}

// talkingPeer is at the stage Talking.
func talkingPeer(t *testing.T) *peer {
	t.Helper()
	x := newPeer(t)
	x.say(login(0x81, "InitiatorName", "i", "TargetName", "t"))
	x.shows(conn.Talking, 0, 0)
	return x
}

// P20.2: as many data as a letter may bring, at every stage.
func TestMostData(t *testing.T) {
	x := fullPeer(t)
	p := nop(100, 5, count(1, 8192)...)
	if l := x.say(p); len(l) != 1 || l[0].Op != 32 || !bytes.Equal(l[0].Data, p.Data) {
		t.Fatal(len(l))
	}
	x.feed(x.bytes(nop(101, 5, count(1, 8193)...)))
	x.isClosed()
}

// P20.2: ahead of Full a letter with an error, or of any other operation, closes the session.
func TestWrongAheadOfFull(t *testing.T) {
	for op := range 64 {
		for _, x := range []*peer{newPeer(t), talkingPeer(t)} {
			p := login(0x87, "InitiatorName", "i", "TargetName", "t")
			if x.c.Stage() == conn.Security {
				p.Flags = 0x83
			}
			p.Op = op
			l := x.say(p)
			if op == 3 {
				if len(l) != 1 || x.c.Stage() != conn.Full {
					t.Fatal(l)
				}
				continue
			}
			x.heard(l)
			x.isClosed()
		}
	}
	for _, x := range []*peer{newPeer(t), talkingPeer(t)} {
		b := x.bytes(login(0x87, "InitiatorName", "i", "TargetName", "t", "X", "12"))
		if b[len(b)-1] != 0 || b[len(b)-2] != 0 {
			t.Fatal("nothing behind the data")
		}
		b[len(b)-1] = 1
		x.feed(b)
		x.heard(x.hear())
		x.isClosed()
	}
}

// P20.2: in Full a letter with an error is rejected, and the session goes on.
func TestWrongInFull(t *testing.T) {
	for _, sums := range [][]string{nil, {"HeaderDigest", "CRC32C"}, {"DataDigest", "CRC32C"}, {"HeaderDigest", "CRC32C", "DataDigest", "CRC32C"}} {
		for _, op := range []int{0, 1, 2, 3, 4, 5, 6, 7, 16, 32, 63} {
			x := fullPeer(t, sums...)
			p := nop(100, 5, 1, 2, 3, 4, 5)
			p.Op = op
			status := uint32(2)
			b := x.bytes(p)
			if x.o.DataSum {
				b[len(b)-1] ^= 4 // of the digest
				x.feed(b)
				x.heard(x.hear(), refused(t, p, 2, 2, 100, 131))
				status++

				b = x.bytes(p)
				b[len(b)-5] = 1 // behind the data: their digest is held against what came
				x.feed(b)
				x.heard(x.hear(), refused(t, p, 2, 3, 100, 131))
				status++
			} else {
				b[len(b)-2] = 1 // behind the data
				x.feed(b)
				x.heard(x.hear(), refused(t, p, 4, 2, 100, 131))
				status++
			}
			if x.o.HeadSum {
				b = x.bytes(p)
				b[50] ^= 1
				x.feed(b)
				x.heard(x.hear())
				x.isClosed()
				continue
			}
			a := back(32, 0, 9, status, 101, 131)
			a.Lun, a.W[0] = 5, none
			x.asks(nop(100, 9), a) // its number was not taken
		}
	}
}

// P20.2: in Full a login is rejected with 4, and what is no operation with 5.
func TestOtherOperations(t *testing.T) {
	for op := range 64 {
		x := fullPeer(t)
		p := login(0x87, "InitiatorName", "j")
		p.Op, p.B2, p.B3 = op, 7, 8
		switch op {
		case 0, 1, 2, 4, 5, 6:
			continue
		case 3:
			x.asks(p, refused(t, p, 4, 2, 100, 131))
		default:
			x.asks(p, refused(t, p, 5, 2, 100, 131))
			p.Now, p.W[1] = false, 5000
			x.asks(p, refused(t, p, 5, 3, 100, 131))
		}
		x.shows(conn.Full, 0, 0)
		if x.c.Initiator() != "i" {
			t.Error(x.c.Initiator())
		}
	}
}

// P20.1: Kept counts what waits to be read, what waits for its turn, and the data of tasks.
func TestKept(t *testing.T) {
	x := fullPeer(t)
	b := x.bytes(nop(100, 9))
	x.feed(b[:30])
	x.shows(conn.Full, 0, 30)
	x.feed(b[30:])
	x.shows(conn.Full, 0, 0)
	x.hear()
	x.say(nop(103, 5, count(1, 70)...), nop(102, 6, count(1, 7)...))
	x.shows(conn.Full, 0, 77)
	x.say(cmd(101, 0xa0, 8, 30, count(1, 20)...))
	x.shows(conn.Full, 1, 20)
	x.say(out(0x00, 8, 1, 0, 20, 1, 2, 3))
	x.shows(conn.Full, 1, 23)
	x.say(out(0x80, 8, 1, 1, 23, 1, 2, 3, 4, 5, 6, 7))
	x.shows(conn.Full, 1, 30)
	d := x.does(append(count(1, 20), 1, 2, 3, 1, 2, 3, 4, 5, 6, 7))
	x.shows(conn.Full, 1, 30)
	if e := x.c.Answer(d.Id, api.Reply{}); e != api.OK {
		t.Fatal(e)
	}
	x.shows(conn.Full, 0, 0)
}
