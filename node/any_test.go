package node_test

import (
	"bytes"
	"math/rand"
	"testing"

	"caisson/api"
	"caisson/chunk"
	"caisson/entries"
	"caisson/node"
	"caisson/pdu"
	"caisson/unit"
)

// anyMessage is some message, that a replica may send or not.
func anyMessage(r *rand.Rand, k *desk) api.Msg {
	number := func() int64 {
		switch r.Intn(12) {
		case 0:
			return 1 << 40
		case 1:
			return r.Int63n(1 << 40)
		}
		return r.Int63n(40)
	}
	info := k.x.Info()
	m := api.Msg{Kind: 1 + r.Intn(9), From: r.Intn(5), Term: info.Term + r.Int63n(3) - 1, At: number(), AtTerm: r.Int63n(8), Commit: number(), Round: number(), Yes: r.Intn(2) == 0}
	m.Term = min(max(m.Term, 0), 1<<40)
	if r.Intn(2) == 0 {
		m.At = r.Int63n(k.x.Top() + 2)
	}
	if r.Intn(60) == 0 {
		m.Kind = r.Intn(256)
	}
	if m.Kind == api.Add || r.Intn(20) == 0 {
		for range r.Intn(17) {
			e := api.Entry{Kind: r.Intn(3), Term: max(1, m.AtTerm+r.Int63n(2)), Cmd: []byte{byte(1 + r.Intn(31))}}
			if e.Kind == api.Write && r.Intn(4) > 0 {
				a := anyAsk(r, k.conf.Units, k.conf.Blocks)
				if x, of, wrong := node.Cmd(k.conf, a.lun, a.cdb, a.data); of && wrong.Status == api.Good {
					x.Nexus, x.Seq = r.Intn(16), 1+r.Int63n(100)
					e.Cmd, _ = unit.Bytes(x)
				}
			}
			m.L = append(m.L, e)
		}
	}
	if m.Kind == api.Part {
		s, _ := unit.New(k.conf.Units, k.conf.Blocks)
		l, _ := chunk.Split(max(1, m.At), s.Bytes(), 4096)
		m.Data = l[r.Intn(len(l))]
		m.Commit = r.Int63n(33)
	}
	return m
}

// P1: any messages, ticks, draws, bytes, failing flushes and crashes: all calls end, what is answered is a message or letters, and a machine starts on what it has written itself.
func TestAnything(t *testing.T) {
	for seed := range int64(150) {
		r := rand.New(rand.NewSource(seed))
		c := confOf(1+r.Intn(5), 1+r.Intn(3), 1+r.Intn(64), 1+r.Intn(4))
		k := newDesk(t, r.Intn(c.Nodes), c)
		for range 120 {
			switch r.Intn(14) {
			case 0, 1:
				k.ticks(1 + r.Intn(12))
			case 2:
				k.x.Draw(r.Int())
			case 3:
				k.send(r.Intn(16), anyAsk(r, c.Units, c.Blocks))
			case 4:
				for _, m := range k.sent() {
					k.agree(m)
				}
			case 5:
				if r.Intn(4) == 0 {
					k.disk.Fail()
				}
			case 6:
				if r.Intn(3) == 0 || k.x.Dead() {
					k.crash(r.Intn(1<<16), r.Intn(1<<16), r.Intn(1<<16), r.Intn(1<<16))
				}
			default:
				m := anyMessage(r, k)
				m.To = k.me
				if b, e := entries.PackMsg(m); e == api.OK {
					k.take(k.x.Handle(m.From, b))
				}
			}
			i := k.x.Info()
			if !k.x.Dead() && (k.x.Applied() != i.Commit || k.x.Top() < i.Commit || k.x.State() == nil) {
				t.Fatal(seed, i, k.x.Applied(), k.x.Top())
			}
		}
	}
}

// P1, P6: any bytes on any connection.
func TestAnyBytes(t *testing.T) {
	for seed := range int64(60) {
		r := rand.New(rand.NewSource(seed))
		k := alone(t, confOf(1, 1, 8, 1))
		for range 60 {
			var b []byte
			switch r.Intn(4) {
			case 0:
				b = put(login())
			case 1:
				p := pdu.Pdu{Op: r.Intn(8), Now: r.Intn(2) == 0, Flags: r.Intn(256), Lun: uint64(r.Intn(2)) << 48, Task: uint32(r.Intn(5))}
				for i := range p.W {
					p.W[i] = uint32(r.Intn(3))
				}
				p.W[3] = uint32(operations[r.Intn(len(operations))]) << 24
				p.Data = make([]byte, r.Intn(3)*64)
				b = put(p)
			case 2:
				b = make([]byte, r.Intn(200))
				r.Read(b)
			case 3:
				b = bytes.Repeat([]byte{byte(r.Intn(256))}, r.Intn(300))
			}
			for _, o := range k.x.Bytes(r.Intn(18)-1, b) {
				if !o.Conn || o.To < 0 || o.To > 15 || len(o.Data) < 48 {
					t.Fatal(seed, o)
				}
			}
			if k.x.Dead() || k.x.Waits() != 0 {
				t.Fatal(seed, k.x.Waits())
			}
		}
	}
}
