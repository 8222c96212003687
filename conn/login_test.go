package conn_test

import (
	"fmt"
	"slices"
	"strings"
	"testing"

	"caisson/conn"
	"caisson/pdu"
)

// welcome is the response to a login's letter; its window is untouched.
func welcome(p pdu.Pdu, flags int, lun uint64, status uint32, data []byte) pdu.Pdu {
	return pdu.Pdu{Op: 35, Flags: flags, Lun: lun, Task: p.Task, W: [7]uint32{0, status, 100, 131}, Data: data}
}

// failure is the response to a login that fails.
func failure(p pdu.Pdu, code, status uint32) pdu.Pdu {
	return pdu.Pdu{Op: 35, Task: p.Task, W: [7]uint32{0, status, 100, 131, code << 16}}
}

// P20.3: the document's example.
func TestExample(t *testing.T) {
	x := newPeer(t)
	p := login(0x87, "InitiatorName", "i", "TargetName", "t")
	x.asks(p, welcome(p, 0x87, 0x123456789abc0001, 1, words("MaxRecvDataSegmentLength", "8192")))
	x.shows(conn.Full, 0, 0)
	if x.c.Initiator() != "i" {
		t.Error(x.c.Initiator())
	}
	a := back(32, 0, 5, 2, 101, 131)
	a.Lun, a.W[0] = 5, none
	x.asks(nop(100, 5), a)
}

// P20.3: a login in several letters: at each stage, and on by each step.
func TestSeveralLetters(t *testing.T) {
	x := newPeer(t)
	p := login(0x00, "InitiatorName", "i", "TargetName", "t", "AuthMethod", "CHAP,None")
	x.asks(p, welcome(p, 0x00, p.Lun, 1, words("AuthMethod", "None")))
	x.shows(conn.Security, 0, 0)
	if x.c.Initiator() != "i" {
		t.Error(x.c.Initiator())
	}
	p = login(0x81, "X", "1", "InitiatorName", "j")
	p.W[1] = 5000 // the window is there already
	x.asks(p, welcome(p, 0x81, p.Lun, 2, words("X", "NotUnderstood")))
	x.shows(conn.Talking, 0, 0)
	if x.c.Initiator() != "j" {
		t.Error(x.c.Initiator())
	}
	p = login(0x04, "MaxBurstLength", "600")
	x.asks(p, welcome(p, 0x04, p.Lun, 3, words("MaxBurstLength", "600", "MaxRecvDataSegmentLength", "8192")))
	x.shows(conn.Talking, 0, 0)
	p = login(0x04, "MaxBurstLength", "700", "HeaderDigest", "None")
	x.asks(p, welcome(p, 0x04, p.Lun, 4, words("MaxBurstLength", "600", "HeaderDigest", "None")))
	p = login(0x87)
	x.asks(p, welcome(p, 0x87, 0x123456789abc0001, 5, nil))
	x.shows(conn.Full, 0, 0)

	x = newPeer(t)
	p = login(0x83, "InitiatorName", "i", "TargetName", "t") // past Talking: the pair is not told
	x.asks(p, welcome(p, 0x83, 0x123456789abc0001, 1, nil))
	x.shows(conn.Full, 0, 0)

	x = newPeer(t)
	p = login(0x04, "InitiatorName", "i", "TargetName", "t") // the first one may say Talking
	x.asks(p, welcome(p, 0x04, p.Lun, 1, words("MaxRecvDataSegmentLength", "8192")))
	x.shows(conn.Talking, 0, 0)
}

// P20.3: each step by Flags, at each stage: what goes on, what does not, and what fails with 512.
func TestSteps(t *testing.T) {
	for flags := range 256 {
		for _, begin := range []int{-1, conn.Security, conn.Talking} {
			x := newPeer(t)
			status := uint32(1)
			pairs := []string{"InitiatorName", "i", "TargetName", "t"}
			if begin >= 0 {
				x.say(login(4*begin, pairs...))
				status, pairs = 2, nil
			}
			p := login(flags, pairs...)
			at, next, on := flags>>2&3, flags&3, flags >= 128
			right := at == max(begin, 0) || begin < 0 && at == conn.Talking
			if on {
				right = right && next > at && next != 2
			}
			if !right || flags&64 != 0 {
				x.asks(p, failure(p, 512, status))
				x.isClosed()
				continue
			}
			want := welcome(p, 4*at, p.Lun, status, nil)
			stage := at
			if on {
				want.Flags += 128 + next
				stage = next
			}
			if next == conn.Full {
				want.Lun = 0x123456789abc0001
			}
			if at == conn.Talking && begin < 0 {
				want.Data = words("MaxRecvDataSegmentLength", "8192")
			}
			x.asks(p, want)
			x.shows(stage, 0, 0)
		}
	}
}

// P20.3: each code with which a login fails, and their order.
func TestFailures(t *testing.T) {
	names := []string{"InitiatorName", "i", "TargetName", "t"}
	with := func(f func(*pdu.Pdu), flags int, pairs ...string) pdu.Pdu {
		p := login(flags, pairs...)
		if f != nil {
			f(&p)
		}
		return p
	}
	version := func(p *pdu.Pdu) { p.B3 = 1 }
	late := func(p *pdu.Pdu) { p.Now = false }
	cut := func(p *pdu.Pdu) { p.Data = p.Data[:len(p.Data)-1] }
	for i, c := range []struct {
		p    pdu.Pdu
		code uint32
	}{
		{with(version, 0x87, names...), 517},
		{with(func(p *pdu.Pdu) { p.B3 = 255 }, 0x87, names...), 517},
		{with(func(p *pdu.Pdu) { version(p); late(p); cut(p) }, 0xcf, "InitiatorName", ""), 517},
		{with(late, 0x87, names...), 512},
		{with(nil, 0xc7, names...), 512},
		{with(nil, 0x47, names...), 512},
		{with(nil, 0x0c, names...), 512},
		{with(nil, 0x08, names...), 512},
		{with(nil, 0x86, names...), 512},
		{with(nil, 0x85, names...), 512},
		{with(nil, 0x84, names...), 512},
		{with(nil, 0x82, names...), 512},
		{with(nil, 0x80, names...), 512},
		{with(cut, 0x87, names...), 512},
		{with(func(p *pdu.Pdu) { p.Data = []byte{0} }, 0x87), 512},
		{with(nil, 0x87, "InitiatorName", "i", "TargetName", "t", "InitiatorName", "i"), 512},
		{with(nil, 0x87, "InitiatorName", "i", "TargetName", "t", "MaxBurstLength", "1"), 512},
		{with(nil, 0x87, "InitiatorName", "", "TargetName", "t"), 512},
		{with(late, 0x87), 512},
		{with(nil, 0x87), 519},
		{with(nil, 0x00), 519},
		{with(nil, 0x87, "TargetName", "t"), 519},
		{with(nil, 0x87, "TargetName", "u"), 519},
		{with(nil, 0x87, "InitiatorName", "i"), 519},
		{with(nil, 0x87, "InitiatorName", "i", "SessionType", "Normal"), 519},
		{with(nil, 0x87, "SessionType", "Discovery"), 519},
		{with(nil, 0x87, "InitiatorName", "i", "TargetName", "u"), 515},
		{with(nil, 0x87, "InitiatorName", "i", "TargetName", "T"), 515},
		{with(nil, 0x87, "InitiatorName", "i", "TargetName", "tt"), 515},
		{with(nil, 0x87, "InitiatorName", "i", "TargetName", "u", "SessionType", "Normal"), 515},
	} {
		x := newPeer(t)
		x.asks(c.p, failure(c.p, c.code, 1))
		x.isClosed()
		if x.c.Initiator() != "" {
			t.Error(i, x.c.Initiator())
		}
	}
	// Discovery needs no target, and takes any
	for _, pairs := range [][]string{{"InitiatorName", "i", "SessionType", "Discovery"}, {"SessionType", "Discovery", "TargetName", "u", "InitiatorName", "i"}} {
		x := newPeer(t)
		p := login(0x87, pairs...)
		x.asks(p, welcome(p, 0x87, 0x123456789abc0001, 1, words("MaxRecvDataSegmentLength", "8192")))
		x.shows(conn.Full, 0, 0)
	}
}

// P20.3: what a second letter of a login fails with; names may be missing there.
func TestLaterFailures(t *testing.T) {
	for _, c := range []struct {
		first, second []string
		code          uint32
	}{
		{[]string{"InitiatorName", "i", "TargetName", "t"}, nil, 0},
		{[]string{"InitiatorName", "i", "TargetName", "t"}, []string{"TargetName", "u"}, 515},
		{[]string{"InitiatorName", "i", "TargetName", "t"}, []string{"TargetName", "t"}, 0},
		{[]string{"InitiatorName", "i", "TargetName", "t"}, []string{"SessionType", "Discovery", "TargetName", "u"}, 0},
		{[]string{"InitiatorName", "i", "SessionType", "Discovery"}, []string{"SessionType", "Normal"}, 515},
		{[]string{"InitiatorName", "i", "SessionType", "Discovery"}, []string{"SessionType", "Normal", "TargetName", "t"}, 0},
		{[]string{"InitiatorName", "i", "TargetName", "t"}, []string{"ImmediateData", "Maybe", "InitiatorName", "j"}, 512},
	} {
		x := newPeer(t)
		x.say(login(0x81, c.first...))
		p := login(0x87, c.second...)
		if c.code == 0 {
			x.asks(p, welcome(p, 0x87, 0x123456789abc0001, 2, words("MaxRecvDataSegmentLength", "8192")))
			x.shows(conn.Full, 0, 0)
			continue
		}
		x.asks(p, failure(p, c.code, 2))
		x.isClosed()
		if x.c.Initiator() != "i" { // what was agreed on stays
			t.Error(x.c.Initiator())
		}
	}
}

// P20.3: answers to pairs, and too many of them.
func TestAnswersOfALogin(t *testing.T) {
	x := newPeer(t)
	p := login(0x04, "InitiatorName", "i", "HeaderDigest", "CRC32C", "TargetName", "t", "FirstBurstLength", "1000", "Y", "", "MaxRecvDataSegmentLength", "600")
	x.asks(p, welcome(p, 0x04, p.Lun, 1, words("HeaderDigest", "CRC32C", "FirstBurstLength", "1000", "Y", "NotUnderstood", "MaxRecvDataSegmentLength", "8192")))

	many := func(n int) []string {
		var l []string
		for i := range n {
			l = append(l, fmt.Sprint("K", i), "v")
		}
		return l
	}
	for _, n := range []int{61, 62} {
		x := newPeer(t)
		p := login(0x04, append(many(n), "InitiatorName", "i", "TargetName", "t")...)
		l := x.say(p)
		if len(l) != 1 || len(pairsOf(t, l[0].Data)) != n+1 {
			t.Fatal(n, len(l))
		}
	}
	for _, n := range []int{63, 64} { // with the pair behind them there would be 64, 65
		x := newPeer(t)
		x.say(login(0x81, "InitiatorName", "i", "TargetName", "t"))
		p := login(0x04, many(n)...)
		l := x.say(p)
		if n == 64 {
			x.heard(l, welcome(p, 0x04, p.Lun, 2, nil))
		} else if len(l) != 1 || len(pairsOf(t, l[0].Data)) != 64 {
			t.Fatal(n, len(l))
		}
		x.shows(conn.Talking, 0, 0)
		p = login(0x04)
		x.asks(p, welcome(p, 0x04, p.Lun, 3, nil)) // once
	}
	x = newPeer(t)
	x.say(login(0x00, "InitiatorName", "i", "TargetName", "t"))
	p = login(0x00, many(65)...)
	x.asks(p, failure(p, 512, 2))
	x.isClosed()
}

// P20.3: digests hold from the next letter on, be it in the same bytes, both ways.
func TestDigests(t *testing.T) {
	for _, head := range []string{"None", "CRC32C"} {
		for _, data := range []string{"None", "CRC32C"} {
			for _, together := range []bool{false, true} {
				x := newPeer(t)
				first := x.bytes(login(0x81, "InitiatorName", "i", "TargetName", "t", "HeaderDigest", head, "DataDigest", data))
				second := x.bytes(login(0x04)) // agreed on, but not yet in Full
				third := x.bytes(login(0x87))
				x.o.HeadSum, x.o.DataSum = head == "CRC32C", data == "CRC32C"
				fourth := x.bytes(nop(100, 5, 1, 2, 3, 4, 5))
				if together {
					x.feed(slices.Concat(first, second, third, fourth))
				} else {
					for _, b := range [][]byte{first, second, third, fourth} {
						x.feed(b)
					}
				}
				a := back(32, 0, 5, 4, 101, 131, 1, 2, 3, 4, 5)
				a.Lun, a.W[0] = 5, none
				last := x.bytes(a)
				x.o = pdu.Opts{Most: 65536}
				logins := x.bytes(
					welcome(login(0), 0x81, 0x123456789abcdef0, 1, words("HeaderDigest", head, "DataDigest", data)),
					welcome(login(0), 0x04, 0x123456789abcdef0, 2, words("MaxRecvDataSegmentLength", "8192")),
					welcome(login(0), 0x87, 0x123456789abc0001, 3, nil))
				if got := x.c.Out(); !slices.Equal(got, append(logins, last...)) {
					t.Fatalf("% x", got)
				}
			}
		}
	}
}

// P20.3: the window begins at the first letter's W1, and goes round; a name of 200 bytes.
func TestWindowOfALogin(t *testing.T) {
	name := strings.Repeat("n", 200)
	for _, first := range []uint32{0, 1, 1<<31 - 1, 1<<32 - 1, 1<<32 - 16} {
		c, _ := conn.New(name)
		x := &peer{t: t, c: c, o: pdu.Opts{Most: 65536}}
		p := login(0x87, "InitiatorName", strings.Repeat("i", 255), "TargetName", name)
		p.W[1] = first
		want := welcome(p, 0x87, 0x123456789abc0001, 1, words("MaxRecvDataSegmentLength", "8192"))
		want.W[2], want.W[3] = first, first+31
		x.asks(p, want)
		for i := range uint32(40) {
			a := back(32, 0, 5, 2+i, first+i+1, first+i+31)
			a.Lun, a.W[0] = 5, none
			x.asks(nop(first+i, 5), a)
		}
	}
}
