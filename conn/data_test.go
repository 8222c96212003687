package conn_test

import (
	"slices"
	"testing"

	"caisson/api"
	"caisson/conn"
	"caisson/pdu"
)

// check is the response to a command that can not be.
func check(task, status, expected, highest uint32) pdu.Pdu {
	a := back(33, 0, task, status, expected, highest, 0, 18, 0x70, 0, 5, 0, 0, 0, 0, 10, 0, 0, 0, 0, 0x24, 0, 0, 0, 0, 0)
	a.B3 = 2
	return a
}

// P20.4: commands that are rejected, each fault alone, and which is told first.
func TestRejectedCommands(t *testing.T) {
	for i, c := range []struct {
		p      pdu.Pdu
		reason int
		more   []string
		un     bool
	}{
		{cmd(101, 0x80, 1, 0), 7, nil, false},       // the task 1 is there
		{cmd(101, 0x00, 1, 0, 1, 2), 7, nil, false}, // ahead of all else
		{cmd(101, 0x80, 2, 4, 1, 2), 4, nil, false}, // data, and it does not write
		{cmd(101, 0xc0, 2, 4, 1, 2), 4, nil, false}, // it reads
		{cmd(101, 0xa0, 2, 1, 1, 2), 4, nil, false}, // more data than its length
		{cmd(101, 0xa0, 2, 0, 1), 4, nil, false},
		{cmd(101, 0xe0, 2, 1, 1, 2), 4, nil, false}, // ahead of what reads and writes
		{cmd(101, 0xa0, 2, 4, 1), 4, []string{"ImmediateData", "No"}, false},
		{cmd(101, 0xa0, 2, 600, count(1, 513)...), 4, []string{"FirstBurstLength", "512"}, false},
		{cmd(101, 0xa0, 2, 5000, count(1, 5001)...), 4, nil, false}, // ahead of what writes too much
		{cmd(101, 0x00, 2, 0), 4, nil, false},                       // F is 0, and it does not write
		{cmd(101, 0x40, 2, 0), 4, nil, false},
		{cmd(101, 0x20, 2, 10), 4, nil, false}, // all must be asked for
		{cmd(101, 0x20, 2, 10), 4, []string{"InitialR2T", "No"}, false},
		{cmd(101, 0x20, 2, 2, 1, 2), 4, nil, false},
		{cmd(101, 0x20, 2, 5000), 4, nil, false},
		{cmd(101, 0x00, 2, 0), 4, nil, true}, // it does not write, though none must be asked for
		{cmd(101, 0x40, 2, 10), 4, nil, true},
		{cmd(101, 0x20, 2, 1, 1, 2), 4, nil, true},
	} {
		x := fullPeer(t, c.more...)
		if c.un {
			conn.Unasked(x.c)
		}
		x.asks(cmd(100, 0x80, 1, 0))
		x.asks(c.p, refused(t, c.p, c.reason, 2, 102, 131))
		x.asks(c.p) // it had its turn
		p := now(c.p)
		x.asks(p, refused(t, p, c.reason, 3, 102, 132)) // and is done
		x.shows(conn.Full, 1, 0)
		d := x.does(nil)
		x.answers(d.Id, api.Reply{}, back(33, 0, 1, 4, 102, 133))
		x.idle()
		if t.Failed() {
			t.Fatal(i)
		}
	}
}

// P20.4: commands that are taken at the bounds of what is agreed on.
func TestTakenCommands(t *testing.T) {
	x := fullPeer(t, "FirstBurstLength", "512", "ImmediateData", "Yes")
	for _, p := range []pdu.Pdu{
		cmd(100, 0x80, 1, 4000000000), // what it neither reads nor writes has any length
		cmd(101, 0xc0, 2, none),
		cmd(102, 0xa0, 3, 512, count(1, 512)...),
		cmd(103, 0xa0, 4, 0),
		cmd(104, 0x9f, none, 0), // other bits mean nothing
	} {
		x.asks(p)
		d := x.does(p.Data)
		if d.Lun != 2 {
			t.Error(d)
		}
	}
	x.shows(conn.Full, 5, 512)
	x = fullPeer(t, "ImmediateData", "No") // without data nothing is wrong
	p := cmd(100, 0xa0, 1, 10)
	x.asks(p, r2t(p, 1, 2, 101, 131, 0, 0, 10))
	p = cmd(101, 0xa0, 2, 4096)
	x.asks(p, r2t(p, 2, 2, 102, 131, 0, 0, 4096))
	x.shows(conn.Full, 2, 0)
}

// P20.4: what is answered at once, and is no task: TaskFull ahead of Check.
func TestAnsweredAtOnce(t *testing.T) {
	x := fullPeer(t)
	wrong := []pdu.Pdu{cmd(0, 0xe0, 90, 0), cmd(0, 0xe0, 90, 2, 1, 2), cmd(0, 0xa0, 90, 4097), cmd(0, 0xa0, 90, none), cmd(0, 0xa0, 90, 4097, 1), cmd(0, 0xe0, 90, 5000)}
	status, n := uint32(2), uint32(100)
	for _, p := range wrong {
		p.W[1] = n
		x.asks(p, check(90, status, n+1, n+31))
		x.asks(now(p), check(90, status+1, n+1, n+32))
		status += 2
		n++
	}
	x.shows(conn.Full, 0, 0)
	for i := range uint32(64) {
		x.shows(conn.Full, int(i), 0)
		x.asks(now(cmd(0, 0x80, i, 0)))
	}
	busy := back(33, 0, 90, 0, 0, 0)
	busy.B3 = 0x28
	for _, p := range append(wrong, cmd(0, 0x80, 90, 0), cmd(0, 0xc0, 90, 10), cmd(0, 0xa0, 90, 10), cmd(0, 0xa0, 90, 1, 1)) {
		p.W[1] = n
		busy.W = [7]uint32{0, status, n + 1, n + 31}
		x.asks(p, busy)
		n++
		status++
	}
	p := cmd(n, 0xc0, 5, 0)
	x.asks(p, refused(t, p, 7, status, n+1, n+31)) // a reject is ahead of these
	x.shows(conn.Full, 64, 0)
	x.asks(now(manage(0, 1, 7, 63)), back(34, 0, 7, status+1, n+1, n+32))
	x.asks(cmd(n+1, 0x80, 90, 0))
	x.shows(conn.Full, 64, 0)
}

// P20.5: the seventh example of the whole.
func TestAskedFor(t *testing.T) {
	x := fullPeer(t)
	p := cmd(100, 0xa0, 1, 128, count(1, 64)...)
	x.asks(p, r2t(p, 1, 2, 101, 131, 0, 64, 64))
	x.idle()
	x.asks(out(0x80, 1, 1, 0, 64, count(80, 64)...))
	d := x.does(append(count(1, 64), count(80, 64)...))
	x.answers(d.Id, api.Reply{}, back(33, 0, 1, 2, 101, 132))
	x.shows(conn.Full, 0, 0)
}

// P20.5: data asked for in several R2Ts, each of at most Burst, in pieces; tags and numbers go on.
func TestBursts(t *testing.T) {
	x := fullPeer(t, "MaxBurstLength", "512")
	all := count(3, 1300)
	p := cmd(100, 0xa0, 1, 1300, all[:10]...)
	x.asks(p, r2t(p, 1, 2, 101, 131, 0, 10, 512))
	q := cmd(101, 0xa0, 2, 1000)
	x.asks(q, r2t(q, 2, 2, 102, 131, 0, 0, 512))
	x.asks(out(0, 1, 1, 0, 10, all[10:100]...))
	x.asks(out(0, 1, 1, 1, 100)) // of no data
	x.asks(out(0, 1, 1, 2, 100, all[100:521]...))
	x.shows(conn.Full, 2, 521)
	x.asks(out(0x80, 1, 1, 3, 521, all[521]), r2t(p, 3, 2, 102, 131, 1, 522, 512))
	x.asks(out(0x80, 1, 3, 0, 522, all[522:1034]...), r2t(p, 4, 2, 102, 131, 2, 1034, 266))
	x.asks(nop(102, 9), echo(9, 2, 103, 131))
	x.asks(out(0, 1, 4, 0, 1034, all[1034:1299]...))
	x.asks(out(0x80, 2, 2, 0, 0, all[:512]...), r2t(q, 5, 3, 103, 132, 1, 512, 488))
	x.asks(out(0x80, 2, 5, 0, 512, all[512:1000]...)) // it passes the one ahead
	x.does(all[:1000])
	x.idle()
	x.asks(out(0xff, 1, 4, 1, 1299, all[1299]))
	x.does(all)
	x.shows(conn.Full, 2, 2300)
}

// P20.5: Data-Outs of data asked for that are rejected, each fault alone; the run goes on behind them.
func TestRejectedData(t *testing.T) {
	x := fullPeer(t)
	x.asks(cmd(100, 0x80, 7, 0)) // does not collect
	x.asks(cmd(101, 0xa0, 8, 2, 1, 2))
	p := cmd(102, 0xa0, 1, 20, 1, 2)
	x.asks(p, r2t(p, 1, 2, 103, 131, 0, 2, 18))
	q := cmd(103, 0xa0, 2, 20)
	x.asks(q, r2t(q, 2, 2, 104, 131, 0, 0, 20))
	x.asks(out(0, 1, 1, 0, 2, 3, 4, 5))
	status := uint32(2)
	right := out(0, 1, 1, 1, 5, 6, 7)
	for _, p := range []pdu.Pdu{
		out(0, 3, 1, 1, 5, 6, 7), out(0, none, 1, 1, 5, 6, 7), out(0x80, 7, none, 0, 0), out(0x80, 8, none, 0, 2), out(0x80, 8, 0, 0, 2), out(0, 7, 0, 0, 0),
		word(right, 0, none), word(right, 0, 0), word(right, 0, 2), out(0, 2, 1, 0, 0, 6),
		word(right, 4, 0), word(right, 4, 2), word(right, 4, none),
		word(right, 5, 4), word(right, 5, 6), word(right, 5, 3), word(right, 5, 0),
		out(0x80, 1, 1, 1, 5, count(1, 16)...), out(0, 1, 1, 1, 5, count(1, 16)...), out(0, 1, 1, 1, 5, count(1, 8000)...),
		out(0x80, 1, 1, 1, 5, 6, 7), out(0x80, 1, 1, 1, 5), out(0, 1, 1, 1, 5, count(1, 15)...),
	} {
		x.asks(p, refused(t, p, 9, status, 104, 131))
		status++
		x.shows(conn.Full, 4, 7)
	}
	x.asks(right)
	x.asks(out(0x80, 1, 1, 2, 7, count(8, 13)...))
	x.does(nil)
	x.does([]byte{1, 2})
	x.does(count(1, 20)[:20:20])
	p = out(0x80, 1, 1, 3, 20)
	x.asks(p, refused(t, p, 9, status, 104, 131)) // it collects no more
	x.idle()
}

// P20.5: data that were not asked for: up to the lesser of First and the length, ended by bit 7 or by as many as may be.
func TestUnaskedData(t *testing.T) {
	x := fullPeer(t, "FirstBurstLength", "512")
	conn.Unasked(x.c)
	all := count(5, 1000)
	x.asks(cmd(100, 0x20, 1, 100, all[:10]...)) // up to its length
	x.asks(out(0, 1, none, 0, 10, all[10:40]...))
	x.asks(out(0, 1, none, 1, 40))
	x.idle()
	x.asks(out(0, 1, none, 2, 40, all[40:100]...)) // as many as may be
	x.does(all[:100])

	p := cmd(101, 0x20, 2, 1000, all[:10]...) // up to First
	x.asks(p)
	x.asks(out(0, 2, none, 0, 10, all[10:511]...))
	x.asks(out(0, 2, none, 1, 511, all[511]), r2t(p, 1, 2, 102, 131, 0, 512, 488))
	q := out(0x80, 2, none, 0, 512, all[512:]...)
	x.asks(q, refused(t, q, 9, 2, 102, 131)) // now they are asked for
	x.asks(out(0x80, 2, 1, 0, 512, all[512:]...))
	x.does(all)

	p = cmd(102, 0x20, 3, 1000)
	x.asks(p)
	x.asks(out(0x80, 3, none, 0, 0, all[:7]...), r2t(p, 2, 3, 103, 131, 0, 7, 993)) // by bit 7
	p = cmd(103, 0x20, 4, 1000)
	x.asks(p)
	x.asks(out(0x80, 4, none, 0, 0), r2t(p, 3, 3, 104, 131, 0, 0, 1000)) // of no data
	p = cmd(104, 0x20, 5, 1000, all[:512]...)
	x.asks(p, r2t(p, 4, 3, 105, 131, 0, 512, 488)) // it has as many: as with F
	x.asks(cmd(105, 0x20, 6, 30, all[:30]...))
	x.does(all[:30])
	x.asks(cmd(106, 0x20, 7, 0))
	x.does(nil)
	x.asks(cmd(107, 0xa0, 8, 30, all[:30]...))
	x.does(all[:30])
	x.idle()
}

// P20.5: Data-Outs that were not asked for and are rejected, each fault alone.
func TestRejectedUnaskedData(t *testing.T) {
	x := fullPeer(t, "FirstBurstLength", "512")
	conn.Unasked(x.c)
	x.asks(cmd(100, 0x20, 1, 20, 1, 2))
	x.asks(cmd(101, 0x20, 2, 600))
	x.asks(out(0, 1, none, 0, 2, 3, 4, 5))
	status := uint32(2)
	right := out(0, 1, none, 1, 5, 6, 7)
	for _, p := range []pdu.Pdu{
		out(0, 3, none, 1, 5, 6, 7), word(right, 0, 0), word(right, 0, 1), word(right, 0, none-1),
		word(right, 4, 0), word(right, 4, 2), word(right, 5, 4), word(right, 5, 6), word(right, 5, 3),
		out(0x80, 1, none, 1, 5, count(1, 16)...), out(0, 1, none, 1, 5, count(1, 16)...), out(0x80, 2, none, 0, 0, count(1, 513)...),
	} {
		x.asks(p, refused(t, p, 9, status, 102, 131))
		status++
		x.shows(conn.Full, 2, 5)
	}
	x.asks(right)
	x.asks(out(0x80, 1, none, 2, 7, count(8, 13)...))
	x.does(count(1, 20))
	x.idle()
}

// P20.4, P20.5: a task that is aborted while its data come: they are rejected, and its Task is free.
func TestAbortedWhileDataCome(t *testing.T) {
	for _, late := range []bool{false, true} {
		x := fullPeer(t)
		p := cmd(100, 0xa0, 1, 40, 1, 2)
		p.Now = late
		first, top := uint32(101), uint32(131)
		if late {
			first = 100
		}
		x.asks(p, r2t(p, 1, 2, first, top, 0, 2, 38))
		x.asks(out(0, 1, 1, 0, 2, 3, 4))
		x.shows(conn.Full, 1, 4)
		if !late {
			top++
		}
		x.asks(now(manage(0, 0x81, 9, 1)), back(34, 0, 9, 2, first, top))
		x.shows(conn.Full, 0, 0)
		q := out(0, 1, 1, 1, 4, 5, 6)
		x.asks(q, refused(t, q, 9, 3, first, top))
		r := cmd(first, 0xa0, 1, 40, 1, 2, 3, 4)
		x.asks(r, r2t(r, 2, 4, first+1, top, 0, 4, 36))
		x.asks(q, refused(t, q, 9, 4, first+1, top)) // of the elder tag
		x.asks(out(0x80, 1, 2, 0, 4, count(5, 36)...))
		x.does(count(1, 40))
		x.idle()
	}
}

// Rule 4: what Next answers is new memory.
func TestDoIsNew(t *testing.T) {
	x := fullPeer(t)
	p := cmd(100, 0xa0, 1, 20, count(1, 10)...)
	x.say(p, cmd(101, 0xa0, 2, 10, count(1, 10)...))
	d := x.does(count(1, 10))
	clear(d.Data)
	clear(d.Cdb)
	_ = append(d.Data, 1)
	in := x.bytes(out(0x80, 1, 1, 0, 10, count(11, 10)...))
	x.feed(in)
	clear(in)
	e := x.does(count(1, 20))
	if !slices.Equal(e.Cdb, []byte{1, 2, 3, 4, 5, 6, 7, 8, 9, 10, 11, 12, 13, 14, 15, 16}) {
		t.Error(e)
	}
}
