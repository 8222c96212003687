package node_test

import (
	"bytes"
	"math"
	"slices"
	"testing"

	"caisson/api"
	"caisson/cdb"
	"caisson/node"
)

var operations = []int{cdb.TestUnitReady, cdb.RequestSense, cdb.Inquiry, cdb.ReadCapacity, cdb.Read10, cdb.Write10, cdb.Sync10, cdb.Unmap, cdb.PrIn, cdb.PrOut, cdb.Read16, cdb.Write16, cdb.ReportLuns, cdb.Ports}

// simple is the command of an operation that asks for nothing special.
func simple(op int) []byte {
	c := cdb.Cdb{Op: op}
	switch op {
	case cdb.Inquiry, cdb.ReportLuns, cdb.RequestSense:
		c.Len = 100
	case cdb.Ports:
		c.Len, c.Service = 100, 10
	case cdb.PrOut:
		c.Len = 24
	}
	return build(c)
}

func isLocal(op int) bool {
	return slices.Contains([]int{cdb.Inquiry, cdb.ReadCapacity, cdb.ReportLuns, cdb.Ports, cdb.RequestSense}, op)
}

func ofTarget(op int) bool {
	return slices.Contains([]int{cdb.ReportLuns, cdb.Ports, cdb.RequestSense}, op)
}

// P21.2: each operation, on machines that lead, that follow another one, and that know no leader.
func TestLocalOperations(t *testing.T) {
	c := confOf(3, 2, 9, 1)
	for _, op := range operations {
		for me := range 3 {
			for leader := -1; leader < 5; leader++ {
				for lun := range 2 {
					r, ok := node.Local(c, me, leader, lun, simple(op))
					switch {
					case isLocal(op):
						if !ok || r.Status != api.Good || len(r.Data) == 0 {
							t.Errorf("%x %d %d: %v %v", op, me, leader, r, ok)
						}
					case leader == me:
						if ok || !sameReply(r, api.Reply{}) {
							t.Errorf("%x %d %d: %v %v", op, me, leader, r, ok)
						}
					default:
						if !ok || !standing(r) {
							t.Errorf("%x %d %d: %v %v", op, me, leader, r, ok)
						}
					}
				}
			}
		}
	}
}

// P21.2: commands that are wrong are answered so by any machine, and the first fault is told.
func TestLocalWrong(t *testing.T) {
	c := confOf(3, 2, 9, 1)
	refuses := func(asc int, lun int, b []byte) {
		t.Helper()
		for _, leader := range []int{-1, 0, 1} {
			if r, ok := node.Local(c, 0, leader, lun, b); !ok || !wrong(r, asc) {
				t.Errorf("% x of %d: %+v %v", b, lun, r, ok)
			}
		}
	}
	for op := range 256 {
		b := make([]byte, 16)
		b[0] = byte(op)
		if !slices.Contains(operations, op) {
			for _, lun := range []int{-1, 0, 1, 2, 255, math.MinInt, math.MaxInt} {
				refuses(0x20, lun, b)
				b[15] = 1 // the operation is told first
				refuses(0x20, lun, b)
			}
			continue
		}
		for _, lun := range []int{-1, 0, 2} {
			b = simple(op)
			for _, n := range []int{0, 1, 6, 10, 12, 15} {
				refuses(0x24, lun, b[:n])
			}
			refuses(0x24, lun, append(slices.Clone(b), 0))
			refuses(0x24, lun, nil)
			b[15] = 1
			refuses(0x24, lun, b) // no command has anything there
			b[15], b[1] = 0, 0x80
			refuses(0x24, lun, b)
		}
		for _, lun := range []int{-1, 2, 3, 255, 256, math.MinInt, math.MaxInt} {
			if r, ok := node.Local(c, 0, 0, lun, simple(op)); ofTarget(op) && (!ok || r.Status != api.Good) {
				t.Errorf("%x of %d: %+v", op, lun, r)
			}
			if !ofTarget(op) {
				refuses(0x25, lun, simple(op))
			}
		}
	}
}

// P21.2: what local commands are answered, byte by byte, cut to what they ask for.
func TestLocalData(t *testing.T) {
	c := confOf(3, 2, 9, 1)
	serial := "caisson-001"
	ports := func(states ...byte) []byte {
		b := []byte{0, 0, 0, byte(12 * len(states))}
		for i, s := range states {
			b = append(b, s, 0x8d, 0, byte(i+1), 0, 0, 0, 1, 0, 0, 0, byte(i+1))
		}
		return b
	}
	sense := make([]byte, 18)
	sense[0], sense[7] = 0x70, 10
	for _, x := range []struct {
		leader int
		c      cdb.Cdb
		want   []byte // nil: its fields are wrong
	}{
		{1, cdb.Cdb{Op: cdb.Inquiry}, []byte("\x00\x00\x06\x02\x1f\x10\x00\x02caisson block unit      0001")},
		{1, cdb.Cdb{Op: cdb.Inquiry, Page: 1}, nil},
		{1, cdb.Cdb{Op: cdb.Inquiry, Page: 0x80}, nil},
		{1, cdb.Cdb{Op: cdb.Inquiry, Vital: true}, []byte("\x00\x00\x00\x03\x00\x80\x83")},
		{1, cdb.Cdb{Op: cdb.Inquiry, Vital: true, Page: 0x80}, []byte("\x00\x80\x00\x0b" + serial)},
		{1, cdb.Cdb{Op: cdb.Inquiry, Vital: true, Page: 0x83}, []byte("\x00\x83\x00\x0f\x02\x01\x00\x0b" + serial)},
		{1, cdb.Cdb{Op: cdb.Inquiry, Vital: true, Page: 0x81}, nil},
		{1, cdb.Cdb{Op: cdb.Inquiry, Vital: true, Page: 255}, nil},
		{1, cdb.Cdb{Op: cdb.ReportLuns}, []byte("\x00\x00\x00\x10\x00\x00\x00\x00\x00\x00\x00\x00\x00\x00\x00\x00\x00\x01\x00\x00\x00\x00\x00\x00")},
		{1, cdb.Cdb{Op: cdb.ReportLuns, Page: 1}, []byte("\x00\x00\x00\x10\x00\x00\x00\x00\x00\x00\x00\x00\x00\x00\x00\x00\x00\x01\x00\x00\x00\x00\x00\x00")},
		{1, cdb.Cdb{Op: cdb.ReportLuns, Page: 2}, []byte("\x00\x00\x00\x10\x00\x00\x00\x00\x00\x00\x00\x00\x00\x00\x00\x00\x00\x01\x00\x00\x00\x00\x00\x00")},
		{1, cdb.Cdb{Op: cdb.ReportLuns, Page: 3}, nil},
		{1, cdb.Cdb{Op: cdb.ReportLuns, Page: 255}, nil},
		{-1, cdb.Cdb{Op: cdb.Ports, Service: 10}, ports(2, 2, 2)},
		{0, cdb.Cdb{Op: cdb.Ports, Service: 10}, ports(0, 2, 2)},
		{1, cdb.Cdb{Op: cdb.Ports, Service: 10}, ports(2, 0, 2)},
		{2, cdb.Cdb{Op: cdb.Ports, Service: 10}, ports(2, 2, 0)},
		{3, cdb.Cdb{Op: cdb.Ports, Service: 10}, ports(2, 2, 2)},
		{1, cdb.Cdb{Op: cdb.Ports, Service: 0}, nil},
		{1, cdb.Cdb{Op: cdb.Ports, Service: 9}, nil},
		{1, cdb.Cdb{Op: cdb.Ports, Service: 11}, nil},
		{1, cdb.Cdb{Op: cdb.Ports, Service: 31}, nil},
		{1, cdb.Cdb{Op: cdb.RequestSense}, sense},
	} {
		for _, n := range []int{0, 1, 3, 4, 17, 18, 24, 35, 36, 40, 100, 255} {
			x.c.Len = n
			r, ok := node.Local(c, 0, x.leader, 1, build(x.c))
			if x.want == nil && (!ok || !wrong(r, 0x24)) {
				t.Errorf("%+v: %+v %v", x.c, r, ok)
			}
			if x.want != nil && (!ok || !sameReply(r, api.Reply{Data: x.want[:min(n, len(x.want))]})) {
				t.Errorf("%+v: %+v %v", x.c, r, ok)
			}
		}
	}
	for blocks := 1; blocks <= 64; blocks++ {
		r, ok := node.Local(confOf(1, 1, blocks, 1), 0, -1, 0, simple(cdb.ReadCapacity))
		if !ok || !sameReply(r, api.Reply{Data: []byte{0, 0, 0, byte(blocks - 1), 0, 0, 0, 64}}) {
			t.Errorf("%d blocks: %+v", blocks, r)
		}
	}
	for nodes := 1; nodes <= 5; nodes++ { // all machines of the conf
		if r, _ := node.Local(confOf(nodes, 1, 1, 1), 0, 0, 0, simple(cdb.Ports)); len(r.Data) != 4+12*nodes {
			t.Errorf("%d machines: % x", nodes, r.Data)
		}
	}
	for units := 1; units <= 3; units++ {
		if r, _ := node.Local(confOf(1, units, 1, 1), 0, 0, 0, simple(cdb.ReportLuns)); len(r.Data) != 8+8*units {
			t.Errorf("%d units: % x", units, r.Data)
		}
	}
}

// P21.2 (P1): any numbers of machines, those that none can have, too: who knows itself as the leader leads.
func TestLocalOfAnyMachine(t *testing.T) {
	c := confOf(2, 1, 8, 1)
	for _, op := range operations {
		for _, me := range edges {
			for _, leader := range edges {
				r, ok := node.Local(c, me, leader, 0, simple(op))
				switch {
				case isLocal(op):
					if !ok || r.Status != api.Good || op == cdb.Ports && len(r.Data) != 28 {
						t.Errorf("%x %d %d: %v %v", op, me, leader, r, ok)
					}
				case me == leader:
					if ok || !sameReply(r, api.Reply{}) {
						t.Errorf("%x %d %d: %v %v", op, me, leader, r, ok)
					}
				default:
					if !ok || !standing(r) {
						t.Errorf("%x %d %d: %v %v", op, me, leader, r, ok)
					}
				}
			}
		}
	}
}

// P21.2: who leads, whatever its number, still answers what is wrong.
func TestLocalWrongOfAnyMachine(t *testing.T) {
	c := confOf(2, 1, 8, 1)
	for _, me := range edges {
		for _, x := range []struct {
			lun, asc int
			b        []byte
		}{
			{0, 0x20, append([]byte{0xff}, make([]byte, 15)...)},
			{0, 0x24, nil},
			{1, 0x25, simple(cdb.Read10)},
			{-1, 0x25, simple(cdb.TestUnitReady)},
		} {
			if r, ok := node.Local(c, me, me, x.lun, x.b); !ok || !wrong(r, x.asc) {
				t.Errorf("%d %x: %v %v", me, x.asc, r, ok)
			}
		}
		if r, ok := node.Local(confOf(0, 1, 8, 1), me, me, 0, simple(cdb.Read10)); ok || !sameReply(r, api.Reply{}) {
			t.Error(me, r, ok)
		}
	}
}

// P21.2: answers share no memory.
func TestLocalSharesNothing(t *testing.T) {
	c := confOf(2, 1, 8, 1)
	for _, op := range operations {
		one, _ := node.Local(c, 0, 1, 0, simple(op))
		want := slices.Clone(one.Data)
		clear(one.Data)
		_ = append(one.Data, 1, 2, 3)
		if two, _ := node.Local(c, 0, 1, 0, simple(op)); !bytes.Equal(two.Data, want) {
			t.Errorf("%x", op)
		}
	}
}

// What sessions are answered is what Local says: of a machine that leads, one that follows, and one that knows no leader.
func TestLocalInSessions(t *testing.T) {
	c := confOf(3, 2, 9, 1)
	none := newDesk(t, 2, c)
	follows := newDesk(t, 1, c)
	follows.handle(api.Msg{Kind: api.Beat, From: 0, Term: 1, Round: 1})
	leads := newDesk(t, 0, c)
	leads.leads(1)
	for _, x := range []struct {
		k      *desk
		leader int
	}{{none, -1}, {follows, 0}, {leads, 0}} {
		for _, op := range operations {
			for _, lun := range []int{0, 1, 2, 255, -1} {
				a := ask{lun: lun, cdb: simple(op)}
				want, ok := node.Local(c, x.k.me, x.leader, lun, a.cdb)
				if !ok {
					continue
				}
				if r := x.k.told(3, a); !sameReply(r, want) {
					t.Errorf("%x of %d: %+v, not %+v", op, lun, r, want)
				}
			}
		}
		if r := x.k.told(3, ask{cdb: append([]byte{0xff}, make([]byte, 15)...)}); !wrong(r, 0x20) {
			t.Error(r)
		}
		if x.k.x.Waits() != 0 {
			t.Error(x.k.x.Waits())
		}
	}
	for _, k := range []*desk{none, follows} { // commands that would be wrong by their data are the leader's to refuse
		for _, a := range []ask{write(0, 33, 1), {cdb: write(0, 1, 1).cdb}, write(65535, 2, 1), {cdb: reserve(0, 0, 0, 1).cdb}, unmap(cdb.Range{N: 33}), keys(7, 9)} {
			if r := k.told(3, a); !standing(r) {
				t.Errorf("%x: %+v", a.cdb, r)
			}
		}
	}
}
