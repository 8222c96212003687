package unit_test

import (
	"bytes"
	"math"
	"math/rand"
	"slices"
	"testing"

	"caisson/api"
	"caisson/resv"
	"caisson/unit"
)

// registered is two units of eight blocks, of which the nexuses 1 and 2 have registered with the unit 0, each with its number 1.
func registered(t *testing.T) *unit.State {
	t.Helper()
	s := newState(t, 2, 8)
	do(t, s, pr(1, 1, 0, resv.Cmd{Action: resv.Register, New: 11}), good)
	do(t, s, pr(2, 1, 0, resv.Cmd{Action: resv.Register, New: 22}), good)
	return s
}

// pile has the nexus 1 told Released by the unit 0 n times.
func pile(t *testing.T, s *unit.State, from int64, n int) {
	t.Helper()
	for i := range n {
		do(t, s, pr(2, from+int64(2*i), 0, resv.Cmd{Action: resv.Reserve, Key: 22, Type: 5}), good)
		do(t, s, pr(2, from+int64(2*i+1), 0, resv.Cmd{Action: resv.Release, Key: 22, Type: 5}), good)
	}
}

// P14.2, P14.3, P14.6: the document's example.
func TestExample(t *testing.T) {
	s := newState(t, 2, 8)
	c := write(1, 1, 0, 3)
	do(t, s, c, good)
	refused(t, s, c, good)
	if r := s.Read(2, 0, 3, 1); r.Status != api.Good || !bytes.Equal(r.Data, full(1)) {
		t.Error("Read", r)
	}
}

// P14.1: how many units and blocks can be.
func TestNew(t *testing.T) {
	for _, units := range []int{math.MinInt, -1, 0, 1, 2, 3, 4, 255, math.MaxInt} {
		for _, blocks := range []int{math.MinInt, -1, 0, 1, 2, 255, 256, 257, 65536 + 8, math.MaxInt} {
			s, e := unit.New(units, blocks)
			if units < 1 || units > 3 || blocks < 1 || blocks > 256 {
				if e != api.ErrArg || s != nil {
					t.Error("New", units, blocks, e)
				}
				continue
			}
			if e != api.OK || s.Units() != units || s.Blocks() != blocks {
				t.Fatal("New", units, blocks, e)
			}
			if !bytes.Equal(s.Bytes(), newModel(units, blocks).bytes()) {
				t.Error("something is in it", units, blocks)
			}
			for lun := range units {
				if s.Image(lun).Size() != blocks || s.Image(lun).Used() != 0 || s.Resv(lun).Gen() != 0 {
					t.Error("unit", lun)
				}
			}
		}
	}
}

// P14.1, P1: a nil state.
func TestNil(t *testing.T) {
	var s *unit.State
	for _, c := range []unit.Cmd{{}, {Kind: 77, Nexus: -1}, write(1, 1, 0, 3), pop(1, 1, 0), write(1, 1, 5)} {
		if r, now := s.Do(c); !sameReply(r, noUnit) || now {
			t.Error("Do", r, now)
		}
	}
	for _, lun := range []int{-1, 0, 2, math.MaxInt} {
		if r := s.Read(0, lun, 0, 1); !sameReply(r, noUnit) {
			t.Error("Read", r)
		}
		if s.Pending(0, lun) || s.Image(lun) != nil || s.Resv(lun) != nil {
			t.Error("of nil", lun)
		}
	}
	if s.Units() != 0 || s.Blocks() != 0 || s.Bytes() != nil || s.Copy() != nil {
		t.Error("of nil")
	}
}

// P1: a state that New has not made has no units.
func TestZeroState(t *testing.T) {
	s := new(unit.State)
	if r, _ := s.Do(write(1, 1, 0, 3)); !sameReply(r, noUnit) || s.Units() != 0 || s.Copy() == nil {
		t.Error("Do", r)
	}
	if r := s.Read(0, 0, 0, 0); !sameReply(r, noUnit) || s.Pending(0, 0) || s.Image(0) != nil {
		t.Error("Read", r)
	}
	if _, e := unit.LoadState(s.Bytes()); e != api.ErrForm {
		t.Error("LoadState", e)
	}
}

// P14.2: a command that can not be changes nothing and is not kept: its number is free still.
func TestCommandsThatCanNotBe(t *testing.T) {
	s := registered(t)
	pile(t, s, 2, 1)
	bounds(func(name string, c unit.Cmd, can bool) {
		if !can {
			refused(t, s, c, wrong)
		}
	})
	do(t, s, write(3, 9, 1, 0), good)
	bad := write(1, 5, 0, 1)
	bad.Changes[0].Data = bad.Changes[0].Data[:63]
	refused(t, s, bad, wrong) // ahead of the note that waits
	bad = write(3, 9, 0, -1)
	refused(t, s, bad, wrong) // ahead of a number that is done
	do(t, s, pop(1, 5, 0), told(4))
}

// P14.2, P14.6: whatever was answered from the second point on is kept, and told again; nothing is done again.
func TestOnce(t *testing.T) {
	s := registered(t)
	pile(t, s, 2, 1)
	do(t, s, write(1, 7, 5, 0), noUnit)
	do(t, s, write(1, 8, 0, 0), told(4))
	do(t, s, write(1, 9, 0, 8), outside)
	do(t, s, unit.Cmd{Kind: unit.Write, Nexus: 1, Seq: 10, Changes: []api.Change{{}}}, wrong)
	do(t, s, write(1, 11, 0, 0), good)
	do(t, s, pr(2, 20, 0, resv.Cmd{Action: resv.Reserve, Key: 22, Type: 3}), good)
	do(t, s, write(1, 12, 0, 0), conflict)
	do(t, s, pr(1, 13, 0, resv.Cmd{Action: resv.Reserve, Key: 11, Type: 3}), conflict)
	do(t, s, pop(1, 14, 0), good)
	do(t, s, pr(2, 21, 0, resv.Cmd{Action: resv.Release, Key: 22, Type: 1}), api.Reply{Status: 2, Key: 5, Asc: 0x26, Ascq: 4})
	for seq, want := range map[int64]api.Reply{7: noUnit, 8: told(4), 9: outside, 10: wrong, 11: good, 12: conflict, 13: conflict, 14: good} {
		// The number alone says which command it is, whatever else has changed.
		for _, c := range []unit.Cmd{write(1, seq, 0, 5), write(1, seq, 0, 99), unmap(1, seq, 0, 0), pop(1, seq, 9), pr(1, seq, 0, resv.Cmd{Action: resv.Clear, Key: 11})} {
			refused(t, s, c, want)
			refused(t, load(t, s.Bytes()), c, want)
			refused(t, s.Copy(), c, want)
		}
	}
	do(t, s, pop(3, 11, 0), good) // of another nexus the number is another one
}

// P14.2: a number too late is answered Busy, and nothing is done.
func TestTooLate(t *testing.T) {
	s := newState(t, 1, 8)
	for seq := int64(10); seq < 74; seq++ {
		do(t, s, write(1, seq, 0, 3), good)
	}
	refused(t, s, write(1, 10, 0, 4), good)
	do(t, s, write(1, 74, 0, 3), good) // the answer of 10 goes
	refused(t, s, write(1, 10, 0, 4), busy)
	refused(t, s, write(1, 1, 0, 4), busy)
	refused(t, s, write(1, 1, 7, 4), busy) // ahead of a unit that there is not
	refused(t, s, write(1, 11, 0, 4), good)
	do(t, s, write(2, 10, 0, 4), good)
	do(t, s, write(1, highest, 0, 4), good)
	refused(t, load(t, s.Bytes()), write(1, 9, 0, 4), busy)
}

// P14.2: units that there are not, and those that there are.
func TestUnits(t *testing.T) {
	s := newState(t, 3, 2)
	for lun, want := range map[int]api.Reply{0: good, 1: good, 2: good, 3: noUnit, 4: noUnit, 254: noUnit, 255: noUnit} {
		do(t, s, write(1, int64(1+lun), lun, 1), want)
		do(t, s, unmap(2, int64(1+lun), lun, 0), want)
		do(t, s, pop(3, int64(1+lun), lun), want)
		do(t, s, pr(4, int64(1+lun), lun, resv.Cmd{New: 1}), want)
	}
	for lun := range 3 {
		has(t, s, lun, 1, byte(1+lun)) // each has blocks of its own
		has(t, s, lun, 0, 0)
		if s.Resv(lun).Key(4) != 1 {
			t.Error("Resv", lun)
		}
	}
	for _, lun := range []int{math.MinInt, -1, 3, 255, math.MaxInt} {
		if s.Image(lun) != nil || s.Resv(lun) != nil || s.Pending(4, lun) || !sameReply(s.Read(4, lun, 0, 1), noUnit) {
			t.Error("of", lun)
		}
	}
}

// P14.2, P14.8: blocks that there are not, Data that a kind does not have, and that then nothing is changed.
func TestChanges(t *testing.T) {
	data, none := full(9), []byte(nil)
	for i, x := range []struct {
		kind int
		l    []api.Change
		want api.Reply
	}{
		{unit.Write, nil, good}, {unit.Unmap, nil, good},
		{unit.Write, []api.Change{{Lba: 0, Data: data}, {Lba: 7, Data: data}}, good},
		{unit.Write, []api.Change{{Lba: 0, Data: data}, {Lba: 8, Data: data}}, outside},
		{unit.Write, []api.Change{{Lba: 65535, Data: data}, {Lba: 1, Data: data}}, outside},
		{unit.Write, []api.Change{{Lba: 0, Data: data}, {Lba: 1, Data: none}}, wrong},
		{unit.Write, []api.Change{{Lba: 0, Data: []byte{}}, {Lba: 1, Data: data}}, wrong},
		{unit.Write, []api.Change{{Lba: 0, Data: none}, {Lba: 8, Data: data}}, outside}, // ahead of the Data
		{unit.Unmap, []api.Change{{Lba: 0}, {Lba: 7}}, good},
		{unit.Unmap, []api.Change{{Lba: 0}, {Lba: 8}}, outside},
		{unit.Unmap, []api.Change{{Lba: 0}, {Lba: 1, Data: data}}, wrong},
		{unit.Unmap, []api.Change{{Lba: 0, Data: data}, {Lba: 256}}, outside},
	} {
		s := newState(t, 1, 8)
		do(t, s, write(1, 1, 0, 0, 1, 2, 3, 4, 5, 6, 7), good)
		before := s.Image(0)
		c := unit.Cmd{Kind: x.kind, Nexus: 1, Seq: 2, Changes: x.l}
		do(t, s, c, x.want)
		want := before.Copy()
		if x.want.Status == api.Good {
			want.Change(x.l)
		}
		if !s.Image(0).Same(want) {
			t.Error(i, "blocks")
		}
	}
}

// P14.2: the changes of a command are done one behind the other, and as many as can be.
func TestManyChanges(t *testing.T) {
	s := newState(t, 1, 256)
	c := unit.Cmd{Kind: unit.Write, Nexus: 1, Seq: 1}
	for i := range 32 {
		c.Changes = append(c.Changes, api.Change{Lba: 255 - i/2, Data: full(byte(i + 1))})
	}
	do(t, s, c, good)
	for i := range 16 {
		has(t, s, 0, 255-i, byte(2*i+2))
	}
	do(t, s, unmap(1, 2, 0, 255, 255, 240), good)
	has(t, s, 0, 255, 0)
	has(t, s, 0, 240, 0)
	if s.Image(0).Used() != 14 {
		t.Error("Used", s.Image(0).Used())
	}
	zero := unit.Cmd{Kind: unit.Write, Nexus: 1, Seq: 3, Changes: []api.Change{{Lba: 0, Data: make([]byte, 64)}}}
	do(t, s, zero, good)
	if !s.Image(0).Has(0) {
		t.Error("a block of 0 is there")
	}
}

// P14.2: whoever may not write is answered Conflict, ahead of what is wrong with its changes.
func TestMayNotWrite(t *testing.T) {
	for _, kind := range []int{1, 3, 5, 6, 7, 8} {
		s := registered(t)
		do(t, s, write(1, 2, 0, 3), good)
		do(t, s, pr(1, 3, 0, resv.Cmd{Action: resv.Reserve, Key: 11, Type: kind}), good)
		before := s.Image(0)
		do(t, s, write(5, 1, 0, 3), conflict)
		do(t, s, write(5, 2, 0, 99), conflict)
		do(t, s, write(5, 3, 0), conflict)
		do(t, s, unmap(5, 4, 0, 3), conflict)
		do(t, s, unit.Cmd{Kind: unit.Write, Nexus: 5, Seq: 5, Changes: []api.Change{{}}}, conflict)
		if !s.Image(0).Same(before) {
			t.Error("changed", kind)
		}
		do(t, s, write(5, 6, 1, 3), good) // of another unit it may
		its := good
		if kind < 5 {
			its = conflict
		}
		do(t, s, write(2, 2, 0, 4), its)
		do(t, s, unmap(2, 3, 0, 4), its)
		do(t, s, write(1, 4, 0, 4), good)
	}
}

// P14.2: each Kind is answered the note that waits, and does nothing else.
func TestNotesWithEachKind(t *testing.T) {
	for i, c := range []unit.Cmd{write(1, 9, 0, 3), write(1, 9, 0, 99), unmap(1, 9, 0, 0), pop(1, 9, 0), pr(1, 9, 0, resv.Cmd{Action: resv.Clear, Key: 11}), {Kind: unit.Unmap, Nexus: 1, Seq: 9, Changes: []api.Change{{Data: full(1)}}}} {
		s := registered(t)
		do(t, s, write(1, 2, 0, 0), good)
		pile(t, s, 2, 1)
		image, held := s.Image(0), s.Resv(0).Bytes()
		if !s.Pending(1, 0) || s.Pending(1, 1) || s.Pending(2, 0) || s.Pending(0, 0) {
			t.Error(i, "Pending")
		}
		do(t, s, pop(1, 8, 1), good) // by another unit it is told nothing
		do(t, s, write(2, 99, 0), good)
		do(t, s, c, told(4))
		if s.Pending(1, 0) || !s.Image(0).Same(image) || !bytes.Equal(s.Resv(0).Bytes(), held) {
			t.Error(i, "something else was done")
		}
		refused(t, s, c, told(4))
		do(t, s, pop(1, 10, 0), good)
	}
}

// P14.2: the notes wait in their order, at most eight of them; one more is lost.
func TestNotesInTheirOrder(t *testing.T) {
	for n := range 11 {
		s := registered(t)
		pile(t, s, 2, n)
		do(t, s, pr(2, 50, 0, resv.Cmd{Action: resv.Preempt, Key: 22, New: 11, Type: 1}), good)
		want := append(bytes.Repeat([]byte{4}, n), 5)
		want = want[:min(8, n+1)]
		x := load(t, s.Bytes())
		for i, code := range want {
			if !s.Pending(1, 0) {
				t.Fatal(n, "Pending", i)
			}
			do(t, s, pop(1, int64(100+i), 0), told(int(code)))
			do(t, x, write(1, int64(100+i), 0, 1), told(int(code)))
		}
		if s.Pending(1, 0) || s.Resv(0).Key(1) != 0 {
			t.Error(n, "Pending")
		}
		do(t, s, pop(1, 200, 0), good)
		do(t, s, write(1, 201, 0, 1), conflict) // fenced off, also if it was not told
		do(t, x, unmap(1, 201, 0, 1), conflict)
	}
}

// P14.2: a note that comes while others wait stands behind them, also when some were told.
func TestNotesWhileOthersWait(t *testing.T) {
	s := registered(t)
	pile(t, s, 2, 8)
	do(t, s, pop(1, 100, 0), told(4))
	do(t, s, pop(1, 101, 0), told(4))
	pile(t, s, 30, 1)
	do(t, s, pr(2, 60, 0, resv.Cmd{Action: resv.Clear, Key: 22}), good)
	for i := range 7 {
		do(t, s, pop(1, int64(110+i), 0), told(4))
	}
	do(t, s, pop(1, 120, 0), told(3))
	do(t, s, pop(1, 121, 0), good)
}

// P14.2: what a Pr answers is what resv answers, and each that is told a note by it has it.
func TestPr(t *testing.T) {
	s := newState(t, 3, 4)
	for nexus := range 16 {
		do(t, s, pr(nexus, 1, 1, resv.Cmd{Action: resv.Register, New: uint64(1 + nexus%2)}), good)
	}
	do(t, s, pr(3, 2, 1, resv.Cmd{Action: resv.Reserve, Key: 2, Type: 6}), good)
	do(t, s, pr(3, 3, 1, resv.Cmd{Action: resv.Reserve, Key: 2, Type: 4}), wrong)
	do(t, s, pr(3, 4, 1, resv.Cmd{Action: 5, Key: 2}), wrong)
	do(t, s, pr(3, 5, 1, resv.Cmd{Action: resv.Release, Key: 2, Type: 5}), api.Reply{Status: 2, Key: 5, Asc: 0x26, Ascq: 4})
	do(t, s, pr(4, 2, 1, resv.Cmd{Action: resv.Reserve, Key: 1, Type: 6}), conflict)
	for nexus := range 16 {
		if s.Pending(nexus, 1) {
			t.Error("Pending", nexus)
		}
	}
	do(t, s, pr(4, 3, 1, resv.Cmd{Action: resv.Preempt, Key: 1, New: 2, Type: 6}), good)
	for nexus := range 16 {
		if s.Pending(nexus, 1) != (nexus != 4) || s.Pending(nexus, 0) || s.Pending(nexus, 2) {
			t.Error("Pending", nexus)
		}
		want := told(4 + nexus%2)
		if nexus == 4 {
			want = good
		}
		do(t, s, pop(nexus, 100, 1), want)
	}
	if n, kind := s.Resv(1).Holder(); n != 4 || kind != 6 {
		t.Error("Holder", n, kind)
	}
	if n, _ := s.Resv(0).Holder(); n != -1 || s.Resv(2).Gen() != 0 {
		t.Error("another unit")
	}
}

// P14.3: which blocks are read, and by whom.
func TestRead(t *testing.T) {
	s := newState(t, 2, 256)
	do(t, s, write(1, 1, 1, 0, 5, 255), good)
	for _, x := range []struct {
		lba, n int
		good   bool
	}{
		{0, 1, true}, {5, 1, true}, {255, 1, true}, {0, 64, true}, {192, 64, true}, {0, 0, true}, {256, 0, true}, {255, 0, true},
		{0, 65, false}, {191, 65, false}, {193, 64, false}, {256, 1, false}, {257, 0, false}, {-1, 1, false}, {-1, 0, false}, {0, -1, false}, {5, math.MinInt, false},
		{math.MaxInt, 1, false}, {1, math.MaxInt, false}, {math.MaxInt, math.MaxInt, false}, {math.MinInt, math.MaxInt, false}, {0, 256, false},
	} {
		r := s.Read(2, 1, x.lba, x.n)
		if !x.good {
			if !sameReply(r, outside) {
				t.Error("Read", x, r)
			}
			continue
		}
		want, _ := s.Image(1).Read(x.lba, x.n)
		if !sameReply(r, api.Reply{Status: 0, Data: want}) || len(r.Data) != 64*x.n {
			t.Error("Read", x, r)
		}
		if r := s.Read(2, 0, x.lba, x.n); !sameReply(r, api.Reply{Data: make([]byte, 64*x.n)}) {
			t.Error("of the other unit", x, r)
		}
	}
	small := newState(t, 1, 8)
	if r := small.Read(0, 0, 0, 9); !sameReply(r, outside) {
		t.Error("Read", r)
	}
}

// P14.3: whoever may not read is answered Conflict, ahead of blocks that there are not; notes play no part.
func TestMayNotRead(t *testing.T) {
	for _, kind := range []int{1, 3, 5, 6, 7, 8} {
		s := registered(t)
		do(t, s, pr(1, 2, 0, resv.Cmd{Action: resv.Reserve, Key: 11, Type: kind}), good)
		for nexus, may := range map[int]bool{1: true, 2: kind != 3, 5: kind == 1 || kind == 5 || kind == 7} {
			for _, n := range []int{1, 9} {
				want := conflict
				if may && n == 1 {
					want = api.Reply{Data: make([]byte, 64)}
				} else if may {
					want = outside
				}
				if r := s.Read(nexus, 0, 0, n); !sameReply(r, want) {
					t.Error("Read", kind, nexus, n, r)
				}
			}
			if r := s.Read(nexus, 1, 0, 1); r.Status != api.Good {
				t.Error("of the other unit", r)
			}
		}
	}
	s := registered(t)
	pile(t, s, 2, 1)
	b := s.Bytes()
	if r := s.Read(1, 0, 0, 1); r.Status != api.Good || !s.Pending(1, 0) || !bytes.Equal(s.Bytes(), b) {
		t.Error("Read", r)
	}
	for _, nexus := range []int{math.MinInt, -1, 16, math.MaxInt} {
		if r := s.Read(nexus, 0, 0, 1); !sameReply(r, conflict) || s.Pending(nexus, 0) {
			t.Error("of", nexus, r)
		}
		if r := s.Read(nexus, 2, 0, 1); !sameReply(r, noUnit) {
			t.Error("of", nexus, r)
		}
	}
}

// P14.5, P4: behind a command that takes a nexus' key away none of its writes change a block, until it registers again.
func TestFenced(t *testing.T) {
	for name, take := range map[string]unit.Cmd{
		"itself":        pr(1, 5, 0, resv.Cmd{Action: resv.Register, Key: 11}),
		"Ignore":        pr(1, 5, 0, resv.Cmd{Action: resv.Ignore}),
		"its own Clear": pr(1, 5, 0, resv.Cmd{Action: resv.Clear, Key: 11}),
		"another Clear": pr(2, 5, 0, resv.Cmd{Action: resv.Clear, Key: 22}),
		"preempted":     pr(2, 5, 0, resv.Cmd{Action: resv.Preempt, Key: 22, New: 11, Type: 5}),
	} {
		s := registered(t)
		do(t, s, write(1, 2, 0, 3), good)
		do(t, s, take, good)
		if s.Pending(1, 0) != (take.Nexus == 2) {
			t.Error(name, "Pending")
		}
		if take.Nexus == 2 { // it is told, in place of its first command
			r, _ := s.Do(write(1, 10, 0, 3))
			if r.Status != api.Check || r.Key != 6 || r.Asc != 0x2a {
				t.Error(name, r)
			}
		}
		do(t, s, write(1, 11, 0, 3), conflict)
		do(t, s, unmap(1, 12, 0, 3), conflict)
		s.Do(pop(2, 39, 0))                                         // its own note, if it has one
		do(t, s, pr(2, 40, 0, resv.Cmd{Action: resv.Ignore}), good) // also where there is no reservation, nor a registrant
		do(t, s, write(1, 13, 0, 3), conflict)
		has(t, s, 0, 3, 2)
		do(t, s, write(1, 14, 1, 3), good) // of another unit it had no key
		do(t, s, pr(1, 15, 0, resv.Cmd{Action: resv.Register, New: 12}), good)
		do(t, s, write(1, 16, 0, 3), good)
		has(t, s, 0, 3, 16)
	}
}

// Rules 4 and 5: images, reservations, answers, bytes and copies share nothing with the state, and what is handed in is not kept.
func TestSharesNothing(t *testing.T) {
	s := registered(t)
	c := write(1, 2, 0, 3)
	do(t, s, c, good)
	pile(t, s, 2, 2)
	b := s.Bytes()
	same := func(what string) {
		t.Helper()
		if !bytes.Equal(s.Bytes(), b) {
			t.Error(what)
		}
	}
	clear(c.Changes[0].Data)
	same("Do")
	s.Image(0).Write(0, full(1))
	s.Resv(0).Do(1, resv.Cmd{Action: resv.Clear, Key: 11})
	same("Image, Resv")
	r := s.Read(1, 0, 3, 1)
	clear(r.Data)
	same("Read")
	clear(s.Bytes())
	same("Bytes")
	x := s.Copy()
	if !bytes.Equal(x.Bytes(), b) || x.Units() != 2 || x.Blocks() != 8 {
		t.Error("Copy")
	}
	do(t, x, pop(1, 9, 0), told(4))
	do(t, x, write(3, 9, 0, 3), good)
	do(t, x, pr(2, 9, 0, resv.Cmd{Action: resv.Clear, Key: 22}), good)
	same("Copy")
	y := x.Copy()
	old := x.Bytes()
	pile(t, s, 20, 2)
	do(t, s, write(3, 9, 0, 3), good)
	if !bytes.Equal(x.Bytes(), old) || !bytes.Equal(y.Bytes(), old) {
		t.Error("Copy")
	}
	z := slices.Clone(b)
	l := load(t, z)
	clear(z)
	if !bytes.Equal(l.Bytes(), b) {
		t.Error("LoadState")
	}
}

// randomCmd is a command that mostly can be done.
func randomCmd(rnd *rand.Rand, s *unit.State, next *[16]int64) unit.Cmd {
	nexus := rnd.Intn(4)
	next[nexus] += int64(rnd.Intn(3))
	c := unit.Cmd{Kind: 1 + rnd.Intn(4), Nexus: nexus, Seq: next[nexus] + 1, Lun: rnd.Intn(s.Units())}
	if rnd.Intn(12) == 0 {
		c.Seq = max(1, c.Seq-int64(rnd.Intn(160)))
	}
	if rnd.Intn(30) == 0 {
		c.Lun = rnd.Intn(6)
	}
	switch c.Kind {
	case unit.Write, unit.Unmap:
		for range rnd.Intn(4) {
			x := api.Change{Lba: rnd.Intn(s.Blocks())}
			if (c.Kind == unit.Write) != (rnd.Intn(30) == 0) {
				x.Data = full(byte(rnd.Intn(256)))
			}
			if rnd.Intn(30) == 0 {
				x.Lba += rnd.Intn(100) - 2
			}
			c.Changes = append(c.Changes, x)
		}
	case unit.Pr:
		r := s.Resv(c.Lun)
		_, kind := r.Holder()
		c.Pr = resv.Cmd{Action: []int{0, 0, 1, 1, 1, 2, 2, 2, 2, 3, 4, 4, 5, 6}[rnd.Intn(14)], Key: r.Key(nexus), New: uint64(rnd.Intn(4)), Type: kind}
		if kind == 0 || rnd.Intn(3) == 0 {
			c.Pr.Type = rnd.Intn(10)
		}
	}
	return c
}

// P14.2 to P14.8, P2, P5: long runs against the model, beside a state that is loaded of its bytes, or copied, in between.
func TestAgainstTheModel(t *testing.T) {
	seen := map[api.Errno]int{}
	for seed := range int64(40) {
		rnd := rand.New(rand.NewSource(seed))
		units, blocks := 1+rnd.Intn(3), 1+rnd.Intn(12)
		s, x, m := newState(t, units, blocks), newState(t, units, blocks), newModel(units, blocks)
		var next [16]int64
		for range 600 {
			switch rnd.Intn(10) {
			case 0:
				x = load(t, x.Bytes())
			case 1:
				x = x.Copy()
			}
			c := randomCmd(rnd, s, &next)
			before := s.Copy()
			r, now := s.Do(c)
			r2, now2 := x.Do(c)
			want, wantNow := m.do(c)
			if !sameReply(r, want) || now != wantNow || !sameReply(r2, want) || now2 != wantNow {
				t.Fatalf("seed %d: %+v: %v %v, %v %v, not %v %v", seed, c, r, now, r2, now2, want, wantNow)
			}
			seen[api.Errno(r.Status<<8+r.Asc)]++
			b := s.Bytes()
			if !bytes.Equal(b, m.bytes()) || !bytes.Equal(b, x.Bytes()) { // P14.7
				t.Fatal("seed", seed, "bytes")
			}
			changed(t, before, s, c, r, now)
			readable(t, rnd, s, m)
		}
	}
	for _, what := range []api.Errno{0, 8 << 8, 24 << 8, 2<<8 + 0x21, 2<<8 + 0x24, 2<<8 + 0x25, 2<<8 + 0x26, 2<<8 + 0x2a} {
		if seen[what] < 20 {
			t.Errorf("too few of %x: %d", int(what), seen[what])
		}
	}
}

// changed fails, if a block has changed by a command that may not do that (P14.5, P14.6, P14.8).
func changed(t *testing.T, before, s *unit.State, c unit.Cmd, r api.Reply, now bool) {
	t.Helper()
	for lun := range s.Units() {
		if s.Image(lun).Same(before.Image(lun)) {
			continue
		}
		if r.Status != api.Good || !now || lun != c.Lun || before.Resv(lun).Fenced(c.Nexus) || c.Kind > unit.Unmap {
			t.Fatal("a block has changed", lun, c, r, now)
		}
	}
}

// readable fails, if a Read or Pending is not as the model has it (P14.3).
func readable(t *testing.T, rnd *rand.Rand, s *unit.State, m *model) {
	t.Helper()
	nexus, lun, lba, n := rnd.Intn(17), rnd.Intn(s.Units()), rnd.Intn(s.Blocks()+2)-1, rnd.Intn(4)
	want := conflict
	if m.resv[lun].May(nexus, resv.Reads) {
		want = outside
		if b, e := m.images[lun].Read(lba, n); e == api.OK {
			want = api.Reply{Data: b}
		}
	}
	if r := s.Read(nexus, lun, lba, n); !sameReply(r, want) {
		t.Fatal("Read", nexus, lun, lba, n, r, "not", want)
	}
	if s.Pending(nexus, lun) != (len(m.notes[lun][nexus]) > 0) {
		t.Fatal("Pending", nexus, lun)
	}
}
