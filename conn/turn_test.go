package conn_test

import (
	"fmt"
	"slices"
	"testing"

	"caisson/api"
	"caisson/conn"
	"caisson/pdu"
)

// echo is the NOP-In of nop.
func echo(task, status, expected, highest uint32, data ...byte) pdu.Pdu {
	a := back(32, 0, task, status, expected, highest, data...)
	a.Lun, a.W[0] = 5, none
	return a
}

// manage is task management of the task with that Task.
func manage(n uint32, flags int, task, of uint32) pdu.Pdu {
	p := pdu.Pdu{Op: 2, Flags: flags, Lun: 9, Task: task}
	p.W[0], p.W[1] = of, n
	return p
}

// texts is a text with a number.
func texts(n uint32, flags int, task, tag uint32, pairs ...string) pdu.Pdu {
	p := pdu.Pdu{Op: 4, Flags: flags, Lun: 0xf1f2f3f4f5f6f7f8, Task: task, Data: words(pairs...)}
	p.W[0], p.W[1] = tag, n
	return p
}

// P20.4: NOP-Out: with a number, now, without a Task, with data up to what the initiator takes.
func TestNop(t *testing.T) {
	x := fullPeer(t, "MaxRecvDataSegmentLength", "512")
	x.asks(nop(100, 5, 1, 2, 3), echo(5, 2, 101, 131, 1, 2, 3))
	x.asks(now(nop(100, 6)), echo(6, 3, 101, 132)) // its Done came behind its letter
	x.asks(now(nop(4000, 0)), echo(0, 4, 101, 132))
	x.asks(nop(101, none, 1, 2))                  // nothing, and its number is free
	x.asks(now(nop(101, none, count(1, 513)...))) // nothing
	x.asks(nop(101, 7, count(1, 511)...), echo(7, 5, 102, 132, count(1, 511)...))
	x.asks(nop(102, 7, count(1, 512)...), echo(7, 6, 103, 133, count(1, 512)...))
	x.asks(nop(103, 7, count(1, 513)...), echo(7, 7, 104, 134, count(1, 512)...))
	x.asks(nop(104, 7, count(1, 8192)...), echo(7, 8, 105, 135, count(1, 512)...))
	x.shows(conn.Full, 0, 0)
	x.idle()
}

// P20.4: letters in every order: done in the order of their numbers, each once; all are under way when the first is done.
func TestTurnsInEveryOrder(t *testing.T) {
	for _, order := range [][]uint32{{0, 1, 2}, {0, 2, 1}, {1, 0, 2}, {1, 2, 0}, {2, 0, 1}, {2, 1, 0}} {
		x := fullPeer(t)
		came := map[uint32]bool{}
		next, status := uint32(0), uint32(2)
		for _, i := range order {
			came[i] = true
			end := next
			for came[end] {
				end++
			}
			var want []pdu.Pdu
			for busy := end - next; next < end; next++ {
				want = append(want, echo(10+next, status, 100+end, 131+end-busy, byte(next)))
				busy--
				status++
			}
			x.asks(nop(100+i, 10+i, byte(i)), want...)
			x.asks(nop(100+i, 50)) // twice: nothing
			x.shows(conn.Full, 0, len(came)-int(next))
		}
	}
}

// P20.4: numbers beyond the window, and behind it, are passed over; at its bounds they are taken.
func TestBeyondTheWindow(t *testing.T) {
	x := fullPeer(t)
	for _, n := range []uint32{99, 132, 133, 100 + 1<<31, 0, none} {
		for _, p := range []pdu.Pdu{nop(n, 5), cmd(n, 0x80, 5, 0), manage(n, 0x81, 5, 5), texts(n, 0x80, 5, none), {Op: 6, Flags: 0x80, W: [7]uint32{0, n}}} {
			x.asks(p)
		}
	}
	x.asks(nop(131, 31))
	x.shows(conn.Full, 0, 0)
	for i := uint32(30); i > 0; i-- {
		x.asks(nop(100+i, i))
	}
	var want []pdu.Pdu
	for i := range uint32(32) {
		want = append(want, echo(i, 2+i, 132, 131+i))
	}
	x.asks(nop(100, 0), want...)
}

// P20.4: commands that are tasks keep the window narrow until they end: 32 of them fill it.
func TestFullWindow(t *testing.T) {
	x := fullPeer(t)
	for i := range uint32(32) {
		x.asks(cmd(100+i, 0x80, i, 0))
	}
	x.shows(conn.Full, 32, 0)
	x.asks(cmd(132, 0x80, 32, 0))
	x.asks(nop(132, 32))
	x.shows(conn.Full, 32, 0)
	x.asks(now(nop(132, 32)), echo(32, 2, 132, 131))
	d := x.does(nil)
	x.answers(d.Id, api.Reply{}, back(33, 0, 0, 3, 132, 132))
	x.asks(nop(133, 33))
	x.asks(nop(132, 34), echo(34, 4, 133, 132))
	x.asks(cmd(133, 0x80, 32, 0))
	for i := 1; i < 33; i++ {
		if i == 1 {
			x.asks(manage(0, 0x81, 9, 1)) // its number is behind the window
			x.asks(now(manage(0, 0x81, 9, 1)), back(34, 0, 9, 5, 134, 134))
			continue
		}
		x.does(nil)
	}
	x.idle()
	x.shows(conn.Full, 31, 0)
}

// P20.4: task management of tasks at each phase, of none, and by other numbers.
func TestManage(t *testing.T) {
	x := fullPeer(t)
	conn.Unasked(x.c)
	for flags := range 256 {
		want := 5
		if flags&0x7f == 1 {
			want = 1
		}
		x.asks(now(manage(0, flags, 7, 3)), back(34, want, 7, uint32(2+flags), 100, 131))
	}
	status := uint32(2 + 256)
	say := func(flags int, of, status, expected, highest uint32, want int) {
		t.Helper()
		x.asks(now(manage(0, flags, 7, of)), back(34, want, 7, status, expected, highest))
	}
	x.asks(cmd(100, 0xc0, 4, 0))
	told := x.does(nil)
	x.asks(cmd(101, 0x20, 2, 100, 9, 9))
	asking := cmd(102, 0xa0, 1, 100)
	x.asks(asking, r2t(asking, 1, status, 103, 131, 0, 0, 100))
	x.asks(cmd(103, 0x80, 3, 0))
	x.asks(cmd(104, 0x80, 5, 0))
	x.asks(now(cmd(104, 0x80, 6, 0)))
	x.asks(cmd(106, 0x80, 8, 0)) // waits for its turn: no task yet
	x.shows(conn.Full, 6, 2)
	say(1, 8, status, 105, 131, 1)
	say(1, 2, status+1, 105, 132, 0) // its data are let go
	x.shows(conn.Full, 5, 0)
	say(1, 2, status+2, 105, 132, 1)
	say(0x82, 1, status+3, 105, 132, 5)
	say(1, 1, status+4, 105, 133, 0)
	say(1, 3, status+5, 105, 134, 0)
	say(1, 4, status+6, 105, 135, 0)
	x.shows(conn.Full, 2, 0)
	if e := x.c.Answer(told.Id, api.Reply{}); e != api.ErrState {
		t.Error(e)
	}
	p := manage(105, 0x81, 7, 6) // what came now is none of the window's
	x.asks(p, back(34, 0, 7, status+7, 107, 107+32-1-3))
	x.shows(conn.Full, 2, 0)
	x.asks(now(manage(0, 0x81, 7, 99)), back(34, 1, 7, status+8, 107, 107+32-1-2))
	five := x.does(nil)
	eight := x.does(nil)
	x.idle()
	x.answers(eight.Id, api.Reply{}, back(33, 0, 8, status+9, 107, 107+32-1-1))
	x.answers(five.Id, api.Reply{}, back(33, 0, 5, status+10, 107, 107+32-1))
	x.asks(out(0x80, 1, 1, 0, 0, count(1, 100)...), refused(t, out(0x80, 1, 1, 0, 0), 9, status+11, 107, 138))
	x.asks(out(0x80, 2, none, 0, 2, 1), refused(t, out(0x80, 2, none, 0, 2), 9, status+12, 107, 138))
}

// P20.4: texts: what is asked for of names, and of all else.
func TestText(t *testing.T) {
	x := fullPeer(t)
	status, n := uint32(2), uint32(100)
	answers := func(pairs, want []string) {
		t.Helper()
		p := texts(n, 0x80, 6, none, pairs...)
		a := back(36, 0, 6, status, n+1, n+31, words(want...)...)
		a.Lun, a.W[0] = p.Lun, none
		x.asks(p, a)
		status++
		n++
	}
	answers(nil, nil)
	answers([]string{"SendTargets", "All"}, []string{"TargetName", "t"})
	answers([]string{"SendTargets", ""}, []string{"TargetName", "t"})
	answers([]string{"SendTargets", "t"}, []string{"TargetName", "t"})
	answers([]string{"SendTargets", "u"}, []string{"SendTargets", "NotUnderstood"})
	answers([]string{"SendTargets", "all"}, []string{"SendTargets", "NotUnderstood"})
	answers([]string{"sendtargets", "All"}, []string{"sendtargets", "NotUnderstood"})
	answers([]string{"A", "1", "SendTargets", "All", "TargetName", "t", "MaxBurstLength", "1"}, []string{"A", "NotUnderstood", "TargetName", "t", "TargetName", "NotUnderstood", "MaxBurstLength", "NotUnderstood"})
	var many, replies []string
	for i := range 64 {
		many = append(many, fmt.Sprint(i), "v")
		replies = append(replies, fmt.Sprint(i), "NotUnderstood")
	}
	answers(many, replies)
	p := now(texts(0, 0xbf, 8, none, "SendTargets", "All"))
	a := back(36, 0, 8, status, n, n+31, words("TargetName", "t")...)
	a.Lun, a.W[0] = p.Lun, none
	x.asks(p, a)
}

// P20.4: texts that are rejected, and have had their turn then.
func TestWrongText(t *testing.T) {
	x := fullPeer(t)
	wrong := []pdu.Pdu{
		texts(0, 0x00, 6, none, "A", "1"),
		texts(0, 0x7f, 6, none, "A", "1"),
		texts(0, 0xc0, 6, none, "A", "1"),
		texts(0, 0x80, 6, 0, "A", "1"),
		texts(0, 0x80, 6, none-1, "A", "1"),
		texts(0, 0x80, 6, none, "A", "1", "A", "2"),
		texts(0, 0x80, 6, none, "", "1"),
	}
	short := texts(0, 0x80, 6, none, "A", "1")
	short.Data = short.Data[:3]
	long := texts(0, 0x80, 6, none)
	for i := range 65 {
		long.Data = append(long.Data, fmt.Sprint(i, "=\x00")...)
	}
	status, n := uint32(2), uint32(100)
	for _, p := range append(wrong, short, long) {
		p.W[1] = n
		x.asks(p, refused(t, p, 4, status, n+1, n+31))
		x.asks(p) // twice: nothing
		p.Now = true
		x.asks(p, refused(t, p, 4, status+1, n+1, n+32))
		status += 2
		n++
	}
	x.asks(nop(n, 5), echo(5, status, n+1, n+31))
}

// P20.4: a logout, in its turn; what waits behind it is not done, nor read.
func TestLogout(t *testing.T) {
	out := pdu.Pdu{Op: 6, Flags: 0x80, Lun: 3, Task: 9}
	x := fullPeer(t)
	x.asks(now(out), back(38, 0, 9, 2, 100, 131))
	x.isClosed()

	x = fullPeer(t)
	x.say(cmd(100, 0x80, 1, 0), cmd(101, 0x80, 2, 0), cmd(103, 0x80, 3, 0), nop(104, 4, 1, 2))
	d := x.does(nil)
	out.W[1] = 102
	out.Flags = 0
	x.asks(out, back(38, 0, 9, 2, 105, 131))
	x.isClosed()
	if e := x.c.Answer(d.Id, api.Reply{}); e != api.ErrState {
		t.Error(e)
	}
	if x.c.Initiator() != "i" {
		t.Error(x.c.Initiator())
	}

	x = fullPeer(t)
	out.W[1] = 101
	x.asks(out) // it waits
	x.shows(conn.Full, 0, 0)
	x.asks(nop(100, 5), echo(5, 2, 102, 131), back(38, 0, 9, 3, 102, 132))
	x.isClosed()
}

// P20.4: which unit a command is of.
func TestUnits(t *testing.T) {
	x := fullPeer(t)
	n := uint32(100)
	asks := func(lun uint64, want int) {
		t.Helper()
		p := cmd(n, 0x80, n, 0)
		p.Lun = lun
		n++
		x.asks(p)
		d := x.does(nil)
		if d.Lun != want || !slices.Equal(d.Cdb, []byte{1, 2, 3, 4, 5, 6, 7, 8, 9, 10, 11, 12, 13, 14, 15, 16}) {
			t.Fatalf("%x: %+v", lun, d)
		}
		x.answers(d.Id, api.Reply{}, back(33, 0, n-1, n-99, n, n+31))
	}
	for lun := range uint64(256) {
		asks(lun<<48, int(lun))
	}
	for bit := range 64 {
		if bit < 48 || bit >= 56 {
			asks(1<<bit, -1)
			asks(1<<bit|3<<48, -1)
		}
	}
	asks(none<<32|none, -1)
}
