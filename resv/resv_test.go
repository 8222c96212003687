package resv_test

import (
	"math"
	"slices"
	"testing"

	"caisson/api"
	"caisson/resv"
)

// P13.2, P13.3: the document's example.
func TestExample(t *testing.T) {
	s := resv.New()
	s.Do(1, resv.Cmd{Action: resv.Register, New: 5})
	s.Do(2, resv.Cmd{Action: resv.Register, New: 6})
	s.Do(1, resv.Cmd{Action: resv.Reserve, Key: 5, Type: 5})
	r, l := s.Do(2, resv.Cmd{Action: resv.Preempt, Key: 6, New: 5, Type: 5})
	is(t, r, l, good, resv.Note{Nexus: 1, Code: 5})
	if s.May(1, resv.Write) || !s.May(2, resv.Write) {
		t.Error("May")
	}
	holds(t, s, 2, 5)
}

// The numbers of actions, types, accesses and notes.
func TestNumbers(t *testing.T) {
	got := []int{resv.Register, resv.Reserve, resv.Release, resv.Clear, resv.Preempt, resv.Ignore, resv.Writes, resv.All, resv.WritesRegs, resv.AllRegs, resv.WritesEach, resv.AllEach, resv.Other, resv.Reads, resv.Write, resv.Preempted, resv.Released, resv.Unregistered}
	if want := []int{0, 1, 2, 3, 4, 6, 1, 3, 5, 6, 7, 8, 0, 1, 2, 3, 4, 5}; !slices.Equal(got, want) {
		t.Error(got)
	}
}

// P13.1: New has nothing; a zero State is no other.
func TestNew(t *testing.T) {
	for _, s := range []*resv.State{resv.New(), new(resv.State), resv.New().Copy()} {
		agree(t, s, empty())
		for nexus := range 16 {
			if !s.May(nexus, resv.Write) || !s.May(nexus, resv.Reads) || s.Fenced(nexus) {
				t.Error("May", nexus)
			}
		}
	}
}

// P13.1, P1: a nil state.
func TestNil(t *testing.T) {
	var s *resv.State
	for _, nexus := range []int{math.MinInt, -1, 0, 15, 16, math.MaxInt} {
		for _, action := range []int{math.MinInt, -1, 0, 1, 2, 3, 4, 5, 6, 7, math.MaxInt} {
			r, l := s.Do(nexus, resv.Cmd{Action: action, New: 1, Type: 1})
			is(t, r, l, wrong)
		}
		if s.May(nexus, resv.Other) || s.May(nexus, resv.Reads) || s.May(nexus, resv.Write) || s.Key(nexus) != 0 || s.Fenced(nexus) {
			t.Error("of nil", nexus)
		}
	}
	holds(t, s, -1, 0)
	if s.Gen() != 0 || s.Bytes() != nil || s.Copy() != nil || regsOf(s) != nil {
		t.Error("of nil")
	}
}

// P13.1, P13.2: nexuses and actions that can not be, which change nothing.
func TestWrong(t *testing.T) {
	m := &model{gen: 7, holder: 2, kind: 5, fenced: 1 << 9, count: -1, regs: []reg{{2, 5}, {15, 6}}}
	s := load(t, m.bytes())
	for _, nexus := range []int{math.MinInt, -1, 16, 17, 255, 256, math.MaxInt} {
		for _, action := range []int{0, 1, 2, 3, 4, 5, 6} { // also of a Release: its own wrong is that of its type
			r, l := s.Do(nexus, resv.Cmd{Action: action, New: 5, Type: 5})
			is(t, r, l, wrong)
		}
		if s.Key(nexus) != 0 || s.Fenced(nexus) || s.May(nexus, resv.Other) || s.May(nexus, resv.Reads) || s.May(nexus, resv.Write) {
			t.Error("of", nexus)
		}
	}
	for _, action := range []int{math.MinInt, -1, 5, 7, 8, 256, 258, 1 << 32, math.MaxInt} {
		for _, key := range []uint64{0, 5, 9} {
			r, l := s.Do(2, resv.Cmd{Action: action, Key: key, New: 7, Type: 5})
			is(t, r, l, wrong)
		}
	}
	agree(t, s, m)
}

// P13.1: the registrants rise, as they are when Regs is called, and whoever stops early is told no more.
func TestRegs(t *testing.T) {
	s := resv.New()
	for _, nexus := range []int{15, 3, 0, 8} {
		s.Do(nexus, resv.Cmd{Action: resv.Register, New: uint64(100 + nexus)})
	}
	all := []reg{{0, 100}, {3, 103}, {8, 108}, {15, 115}}
	before := s.Regs()
	s.Do(3, resv.Cmd{Action: resv.Ignore})
	s.Do(8, resv.Cmd{Action: resv.Ignore, New: 1})
	s.Do(9, resv.Cmd{Action: resv.Ignore, New: math.MaxUint64})
	for range 2 { // it may be gone through again
		var l []reg
		for nexus, key := range before {
			l = append(l, reg{nexus, key})
		}
		if !slices.Equal(l, all) {
			t.Error("as they were", l)
		}
	}
	if l := regsOf(s); !slices.Equal(l, []reg{{0, 100}, {8, 1}, {9, math.MaxUint64}, {15, 115}}) {
		t.Error("as they are", l)
	}
	told := 0
	for nexus := range before {
		told++
		if nexus == 3 {
			break
		}
	}
	if told != 2 {
		t.Error("told", told)
	}
}

// P13.3: each type, of whoever holds it, of another registrant, of one without a key, and of one that is fenced off.
func TestMay(t *testing.T) {
	const holder, other, nobody, fenced = 0, 5, 9, 15
	for _, c := range []struct {
		kind           int
		reads, written string // who may: h, o, n, f
	}{
		{0, "honf", "hon"}, {1, "honf", "h"}, {3, "h", "h"}, {5, "honf", "ho"}, {6, "ho", "ho"}, {7, "honf", "ho"}, {8, "ho", "ho"},
	} {
		m := &model{holder: holder, kind: c.kind, fenced: 1 << fenced, count: -1, regs: []reg{{holder, 1}, {other, 2}}}
		if c.kind == 0 {
			m.holder = -1
		}
		s := load(t, m.bytes())
		for i, nexus := range []int{holder, other, nobody, fenced} {
			who := "honf"[i : i+1]
			if !s.May(nexus, resv.Other) || s.May(nexus, resv.Reads) != slices.Contains([]byte(c.reads), who[0]) || s.May(nexus, resv.Write) != slices.Contains([]byte(c.written), who[0]) {
				t.Error("type", c.kind, who, s.May(nexus, resv.Reads), s.May(nexus, resv.Write))
			}
			for _, what := range []int{math.MinInt, -1, 3, 4, math.MaxInt} {
				if s.May(nexus, what) {
					t.Error("May", nexus, what)
				}
			}
		}
	}
}

// P13.3: of the types 7 and 8 whoever reserved and has left holds nothing.
func TestMayOfOneWhoHasLeft(t *testing.T) {
	for _, kind := range []int{7, 8} {
		s := resv.New()
		s.Do(1, resv.Cmd{Action: resv.Register, New: 1})
		s.Do(2, resv.Cmd{Action: resv.Register, New: 2})
		s.Do(1, resv.Cmd{Action: resv.Reserve, Key: 1, Type: kind})
		r, l := s.Do(1, resv.Cmd{Action: resv.Register, Key: 1})
		is(t, r, l, good)
		holds(t, s, 1, kind)
		if s.May(1, resv.Write) || s.May(1, resv.Reads) != (kind == 7) || !s.May(2, resv.Write) || !s.May(2, resv.Reads) {
			t.Error("May", kind)
		}
		// It is told as the holder still, and that goes as bytes.
		holds(t, load(t, s.Bytes()), 1, kind)
	}
}

// P13.5: whoever lost its key, by itself or another one, may not write until it has one again; also where there is no reservation.
func TestFenced(t *testing.T) {
	for name, take := range map[string]func(*resv.State){
		"itself":         func(s *resv.State) { s.Do(1, resv.Cmd{Action: resv.Register, Key: 11}) },
		"itself, Ignore": func(s *resv.State) { s.Do(1, resv.Cmd{Action: resv.Ignore}) },
		"its own Clear":  func(s *resv.State) { s.Do(1, resv.Cmd{Action: resv.Clear, Key: 11}) },
		"another Clear":  func(s *resv.State) { s.Do(2, resv.Cmd{Action: resv.Clear, Key: 22}) },
		"preempted":      func(s *resv.State) { s.Do(2, resv.Cmd{Action: resv.Preempt, Key: 22, New: 11, Type: 1}) },
	} {
		s := resv.New()
		s.Do(1, resv.Cmd{Action: resv.Register, New: 11})
		s.Do(2, resv.Cmd{Action: resv.Register, New: 22})
		if !s.May(1, resv.Write) {
			t.Error(name, "ahead of it")
		}
		take(s)
		if s.May(1, resv.Write) || !s.May(1, resv.Reads) || !s.May(1, resv.Other) || !s.Fenced(1) || s.Key(1) != 0 || s.Fenced(3) || !s.May(3, resv.Write) {
			t.Error(name)
		}
		for _, c := range []resv.Cmd{{Action: resv.Register}, {Action: resv.Ignore}, {Action: resv.Register, Key: 11, New: 11}, {Action: resv.Reserve, Key: 11, Type: 1}} {
			if s.Do(1, c); !s.Fenced(1) || s.May(1, resv.Write) {
				t.Error(name, c)
			}
		}
		if s.Do(1, resv.Cmd{Action: resv.Register, New: 12}); s.Fenced(1) || !s.May(1, resv.Write) || s.Key(1) != 12 {
			t.Error(name, "registers again")
		}
	}
}

// Rules 4 and 5: a copy, the notes and the bytes share nothing with the state.
func TestSharesNothing(t *testing.T) {
	m := &model{gen: 1, holder: 2, kind: 5, fenced: 8, count: -1, regs: []reg{{2, 5}, {4, 6}, {5, 6}}}
	b := m.bytes()
	s := load(t, b)
	clear(b)
	agree(t, s, m)
	clear(s.Bytes())
	agree(t, s, m)
	c := s.Copy()
	agree(t, c, m)
	_, l := c.Do(2, resv.Cmd{Action: resv.Clear, Key: 5})
	clear(l)
	agree(t, s, m)
	old := c.Copy()
	s.Do(4, resv.Cmd{Action: resv.Preempt, Key: 6, New: 5, Type: 8})
	if !slices.Equal(c.Bytes(), old.Bytes()) {
		t.Error("Copy")
	}
	_, l = s.Do(4, resv.Cmd{Action: resv.Clear, Key: 6})
	is(t, api.Reply{}, l, api.Reply{}, resv.Note{Nexus: 5, Code: 3})
}
