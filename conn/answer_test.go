package conn_test

import (
	"math"
	"strconv"
	"testing"

	"caisson/api"
	"caisson/conn"
	"caisson/pdu"
)

// dataIn is a letter with data of a command.
func dataIn(flags int, task, expected, highest, n, at uint32, data ...byte) pdu.Pdu {
	return pdu.Pdu{Op: 37, Flags: flags, Task: task, W: [7]uint32{none, 0, expected, highest, n, at}, Data: data}
}

// ended is a response without data.
func ended(flags, status int, task, number, expected, highest, letters, more uint32) pdu.Pdu {
	return pdu.Pdu{Op: 33, Flags: flags, B3: status, Task: task, W: [7]uint32{0, number, expected, highest, letters, 0, more}}
}

// P20.6: answers of more, of just as many, of fewer and of no data, in letters of at most MostOut.
func TestAnswersThatRead(t *testing.T) {
	for _, most := range []int{512, 8192, 65536} {
		for _, length := range []uint32{0, 1, 511, 512, 513, 1024, 1025, 70000} {
			for _, have := range []int{0, 1, 511, 512, 513, 1023, 1024, 1025, 1500, 65536, 65537, 70000, 140000} {
				x := fullPeer(t, "MaxRecvDataSegmentLength", strconv.Itoa(most))
				x.asks(cmd(100, 0xc0, 4, length))
				d := x.does(nil)
				data := count(1, have)
				send := min(have, int(length))
				var want []pdu.Pdu
				for at := 0; at < send; at += most {
					end, flags := at+most, 0
					if end >= send {
						end, flags = send, 0x80
					}
					want = append(want, dataIn(flags, 4, 101, 132, uint32(len(want)), uint32(at), data[at:end]...))
				}
				flags, more := 0x80, uint32(0)
				if have > int(length) {
					flags, more = 0x84, uint32(have)-length
				} else if have < int(length) {
					flags, more = 0x82, length-uint32(have)
				}
				want = append(want, ended(flags, 0, 4, 2, 101, 132, uint32(len(want)), more))
				x.answers(d.Id, api.Reply{Data: data}, want...)
				x.shows(conn.Full, 0, 0)
			}
		}
	}
	x := fullPeer(t)
	x.asks(cmd(100, 0xc0, 4, none))
	x.answers(x.does(nil).Id, api.Reply{}, ended(0x82, 0, 4, 2, 101, 132, 0, none))
}

// P20.6: commands that do not read, or do not end Good, have no data, and nothing is more or fewer.
func TestAnswersWithoutData(t *testing.T) {
	for _, c := range []struct {
		flags int
		r     api.Reply
		b3    int
	}{
		{0x80, api.Reply{Data: count(1, 10)}, 0},
		{0xa0, api.Reply{Data: count(1, 10)}, 0},
		{0x80, api.Reply{}, 0},
		{0xc0, api.Reply{Status: api.Busy, Data: count(1, 10)}, 8},
		{0xc0, api.Reply{Status: api.Conflict, Key: 3, Asc: 4, Ascq: 5}, 24},
		{0xc0, api.Reply{Status: api.TaskFull}, 40},
		{0x80, api.Reply{Status: 255}, 255},
		{0xc0, api.Reply{Status: 256, Data: count(1, 5)}, 0}, // its lowest bits are 0, but it is not Good
		{0xc0, api.Reply{Status: 258, Key: 1}, 2},            // nor is this Check
		{0xc0, api.Reply{Status: -1, Data: count(1, 5)}, 255},
		{0xc0, api.Reply{Status: math.MinInt}, 0},
		{0xc0, api.Reply{Status: math.MaxInt}, 255},
	} {
		x := fullPeer(t)
		x.asks(cmd(100, c.flags, 4, 4, count(1, 4*(c.flags>>5&1))...))
		d, ok := x.c.Next()
		if !ok {
			t.Fatal("none")
		}
		x.answers(d.Id, c.r, ended(0x80, c.b3, 4, 2, 101, 132, 0, 0))
		x.shows(conn.Full, 0, 0)
	}
}

// P20.6: a Check has its sense as data, if that can be; and nothing else.
func TestAnswersOfCheck(t *testing.T) {
	for _, flags := range []int{0x80, 0xc0, 0xa0} {
		for _, c := range []struct {
			r   api.Reply
			bad bool
		}{
			{api.Reply{Key: 5, Asc: 0x21}, false},
			{api.Reply{}, false},
			{api.Reply{Key: 15, Asc: 255, Ascq: 255, Data: count(1, 9)}, false},
			{api.Reply{Key: 16}, true},
			{api.Reply{Key: -1}, true},
			{api.Reply{Asc: 256}, true},
			{api.Reply{Ascq: -1, Data: count(1, 9)}, true},
		} {
			x := fullPeer(t)
			p := cmd(100, flags, 4, 0)
			x.asks(p)
			r := c.r
			r.Status = api.Check
			want := ended(0x80, 2, 4, 2, 101, 132, 0, 0)
			if !c.bad {
				want.Data = []byte{0, 18, 0x70, 0, byte(r.Key), 0, 0, 0, 0, 10, 0, 0, 0, 0, byte(r.Asc), byte(r.Ascq), 0, 0, 0, 0}
			}
			x.answers(x.does(nil).Id, r, want)
		}
	}
}

// P20.6: which numbers may be answered: told, and not answered; the window is wider ahead of the letters, but of what came now.
func TestWhichMayBeAnswered(t *testing.T) {
	x := fullPeer(t)
	x.say(cmd(100, 0x80, 1, 0), now(cmd(100, 0xc0, 2, 2)), cmd(101, 0xc0, 3, 2))
	refuses := func(ids ...int64) {
		t.Helper()
		for _, id := range ids {
			if e := x.c.Answer(id, api.Reply{Status: api.Good}); e != api.ErrState {
				t.Fatalf("Answer of %d: %v", id, e)
			}
		}
		x.heard(x.hear())
	}
	refuses(math.MinInt64, -1, 0, 1, 2, 3, 4, 5, math.MaxInt64) // none was told yet
	x.shows(conn.Full, 3, 0)
	first, second := x.does(nil), x.does(nil)
	for id := int64(-50); id < 150; id++ {
		if id != first.Id && id != second.Id {
			refuses(id)
		}
	}
	x.shows(conn.Full, 3, 0)
	x.answers(second.Id, api.Reply{Data: []byte{7, 8}}, dataIn(0x80, 2, 102, 131, 0, 0, 7, 8), ended(0x80, 0, 2, 2, 102, 131, 1, 0))
	refuses(second.Id)
	third := x.does(nil)
	x.answers(third.Id, api.Reply{Data: []byte{9}}, dataIn(0x80, 3, 102, 132, 0, 0, 9), ended(0x82, 0, 3, 3, 102, 132, 1, 1))
	x.answers(first.Id, api.Reply{}, ended(0x80, 0, 1, 4, 102, 133, 0, 0))
	refuses(first.Id, second.Id, third.Id)
	if first.Id == second.Id || second.Id == third.Id || first.Id == third.Id {
		t.Error("a number twice")
	}
	x.shows(conn.Full, 0, 0)
}

// P20.6: with digests, too.
func TestAnswersWithDigests(t *testing.T) {
	x := fullPeer(t, "HeaderDigest", "CRC32C", "DataDigest", "CRC32C")
	x.asks(cmd(100, 0xc0, 4, 5))
	x.answers(x.does(nil).Id, api.Reply{Data: []byte{1, 2, 3, 4, 5}}, dataIn(0x80, 4, 101, 132, 0, 0, 1, 2, 3, 4, 5), ended(0x80, 0, 4, 2, 101, 132, 1, 0))
	p := cmd(101, 0xa0, 4, 5, 1, 2, 3)
	x.asks(p, r2t(p, 1, 3, 102, 132, 0, 3, 2))
	x.asks(out(0x80, 4, 1, 0, 3, 4, 5))
	x.answers(x.does([]byte{1, 2, 3, 4, 5}).Id, api.Reply{Status: api.Conflict}, ended(0x80, 24, 4, 3, 102, 133, 0, 0))
}
