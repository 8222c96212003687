package resv_test

import (
	"encoding/binary"
	"slices"
	"testing"

	"caisson/api"
	"caisson/resv"
)

var types = []int{resv.Writes, resv.All, resv.WritesRegs, resv.AllRegs, resv.WritesEach, resv.AllEach}

var (
	good     = api.Reply{Status: 0}
	conflict = api.Reply{Status: 24}
	wrong    = api.Reply{Status: 2, Key: 5, Asc: 0x24}
	released = api.Reply{Status: 2, Key: 5, Asc: 0x26, Ascq: 4} // a wrong Release
)

func sameReply(a, b api.Reply) bool {
	return a.Status == b.Status && a.Key == b.Key && a.Asc == b.Asc && a.Ascq == b.Ascq && len(a.Data) == 0 && len(b.Data) == 0
}

// reg is a registrant in a state's bytes, whether or not it can be.
type reg struct {
	nexus int
	key   uint64
}

// model is a state by the plainest means, and also one that can not be, as bytes.
type model struct {
	gen    uint32
	holder int // -1: none
	kind   int
	fenced uint16
	count  int // of the registrants, in bytes; -1: as many as there are
	regs   []reg
}

func empty() *model { return &model{holder: -1, count: -1} }

func (m *model) copied() *model {
	c := *m
	c.regs = slices.Clone(m.regs)
	return &c
}

func (m *model) bytes() []byte {
	b := binary.BigEndian.AppendUint32(nil, m.gen)
	b = append(b, byte(m.holder+1), byte(m.kind))
	b = binary.BigEndian.AppendUint16(b, m.fenced)
	n := m.count
	if n < 0 {
		n = len(m.regs)
	}
	b = append(b, byte(n))
	for _, x := range m.regs {
		b = binary.BigEndian.AppendUint64(append(b, byte(x.nexus)), x.key)
	}
	return b
}

func (m *model) key(nexus int) uint64 {
	for _, x := range m.regs {
		if x.nexus == nexus {
			return x.key
		}
	}
	return 0
}

func (m *model) setKey(nexus int, key uint64) {
	m.regs = slices.DeleteFunc(m.regs, func(x reg) bool { return x.nexus == nexus })
	if key == 0 {
		m.fenced |= 1 << nexus
		return
	}
	m.fenced &^= 1 << nexus
	m.regs = append(m.regs, reg{nexus, key})
	slices.SortFunc(m.regs, func(a, b reg) int { return a.nexus - b.nexus })
}

func (m *model) holds(nexus int) bool {
	if m.kind == 7 || m.kind == 8 {
		return m.key(nexus) != 0
	}
	return m.holder == nexus
}

func (m *model) noReservation() { m.holder, m.kind = -1, 0 }

// others is a note for each registrant but one.
func (m *model) others(nexus, code int) []resv.Note {
	var l []resv.Note
	for _, x := range m.regs {
		if x.nexus != nexus {
			l = append(l, resv.Note{Nexus: x.nexus, Code: code})
		}
	}
	return l
}

func sorted(l []resv.Note) []resv.Note {
	slices.SortFunc(l, func(a, b resv.Note) int { return a.Nexus - b.Nexus })
	return l
}

func (m *model) do(nexus int, c resv.Cmd) (api.Reply, []resv.Note) {
	if nexus < 0 || nexus > 15 {
		return wrong, nil
	}
	own := m.key(nexus)
	switch c.Action {
	case 0, 6:
		if c.Action == 0 && c.Key != own {
			return conflict, nil
		}
		return good, m.register(nexus, c.New)
	case 1, 2, 3, 4:
		if own == 0 || own != c.Key {
			return conflict, nil
		}
	}
	switch c.Action {
	case 1:
		return m.reserve(nexus, c.Type), nil
	case 2:
		return m.release(nexus, c.Type)
	case 3:
		notes := m.others(nexus, 3)
		for _, x := range slices.Clone(m.regs) {
			m.setKey(x.nexus, 0)
		}
		m.noReservation()
		m.gen++
		return good, notes
	case 4:
		return m.preempt(nexus, c.New, c.Type)
	}
	return wrong, nil
}

func (m *model) register(nexus int, key uint64) []resv.Note {
	if key == 0 && m.key(nexus) == 0 {
		return nil
	}
	m.gen++
	m.setKey(nexus, key)
	if key != 0 || m.kind == 0 {
		return nil
	}
	if m.kind < 7 && m.holder == nexus || len(m.regs) == 0 {
		kind := m.kind
		m.noReservation()
		if kind == 5 || kind == 6 {
			return m.others(nexus, 4)
		}
	}
	return nil
}

func (m *model) reserve(nexus, kind int) api.Reply {
	switch {
	case !slices.Contains(types, kind):
		return wrong
	case m.kind == 0:
		m.holder, m.kind = nexus, kind
		return good
	case m.holds(nexus) && m.kind == kind:
		return good
	}
	return conflict
}

func (m *model) release(nexus, kind int) (api.Reply, []resv.Note) {
	switch {
	case m.kind == 0 || !m.holds(nexus):
		return good, nil
	case m.kind != kind:
		return released, nil
	}
	m.noReservation()
	if kind > 3 {
		return good, m.others(nexus, 4)
	}
	return good, nil
}

func (m *model) preempt(nexus int, key uint64, kind int) (api.Reply, []resv.Note) {
	if !slices.Contains(types, kind) {
		return wrong, nil
	}
	over := m.kind >= 7 && key == 0 || m.kind > 0 && m.kind < 7 && m.key(m.holder) == key
	if !over && key == 0 {
		return wrong, nil
	}
	if !over && !slices.ContainsFunc(m.regs, func(x reg) bool { return x.key == key }) {
		return conflict, nil
	}
	held := m.holds(nexus)
	var notes []resv.Note
	for _, x := range slices.Clone(m.regs) {
		if x.nexus != nexus && (key == 0 || x.key == key) {
			m.setKey(x.nexus, 0)
			notes = append(notes, resv.Note{Nexus: x.nexus, Code: 5})
		}
	}
	m.gen++
	if over {
		if m.kind != kind || !held {
			notes = append(notes, m.others(nexus, 4)...)
		}
		m.holder, m.kind = nexus, kind
	}
	return good, sorted(notes)
}

func (m *model) may(nexus, what int) bool {
	switch {
	case nexus < 0 || nexus > 15 || what < 0 || what > 2:
		return false
	case what == 0:
		return true
	case what == 2 && m.fenced>>nexus&1 == 1:
		return false
	case m.kind == 0 || m.holds(nexus):
		return true
	case what == 1 && (m.kind == 1 || m.kind == 5 || m.kind == 7):
		return true
	case m.kind >= 5:
		return m.key(nexus) != 0
	}
	return false
}

func load(t *testing.T, b []byte) *resv.State {
	t.Helper()
	s, e := resv.Load(b)
	if e != api.OK || s == nil {
		t.Fatalf("Load of % x: %v", b, e)
	}
	return s
}

// is fails, if an answer and notes are not as they are wanted.
func is(t *testing.T, r api.Reply, l []resv.Note, want api.Reply, notes ...resv.Note) {
	t.Helper()
	if !sameReply(r, want) || !slices.Equal(l, notes) {
		t.Error(r, l, "not", want, notes)
	}
}

// holds fails, if Holder is not as it is wanted.
func holds(t *testing.T, s *resv.State, nexus, kind int) {
	t.Helper()
	if n, k := s.Holder(); n != nexus || k != kind {
		t.Error("Holder", n, k, "not", nexus, kind)
	}
}

func regsOf(s *resv.State) []reg {
	var l []reg
	for nexus, key := range s.Regs() {
		l = append(l, reg{nexus, key})
	}
	return l
}

// agree fails, if a state is not as the model in all that can be asked.
func agree(t *testing.T, s *resv.State, m *model) {
	t.Helper()
	want := m.bytes()
	if b := s.Bytes(); !slices.Equal(b, want) {
		t.Fatalf("Bytes % x not % x", b, want)
	}
	holds(t, s, m.holder, m.kind)
	if s.Gen() != int64(m.gen) || !slices.Equal(regsOf(s), m.regs) {
		t.Fatal("Gen, Regs", s.Gen(), regsOf(s))
	}
	for nexus := -1; nexus <= 16; nexus++ {
		if s.Key(nexus) != m.key(nexus) || s.Fenced(nexus) != (nexus >= 0 && m.fenced>>nexus&1 == 1) {
			t.Fatal("Key, Fenced", nexus, s.Key(nexus), s.Fenced(nexus))
		}
		for what := -1; what <= 3; what++ {
			if s.May(nexus, what) != m.may(nexus, what) {
				t.Fatal("May", nexus, what, s.May(nexus, what))
			}
		}
	}
}

// follows fails, if what follows from the promises does not hold.
func follows(t *testing.T, s *resv.State) {
	t.Helper()
	holder, kind := s.Holder()
	if kind == 0 != (holder == -1) {
		t.Fatal("Holder", holder, kind)
	}
	if kind != 0 && kind < 7 && s.Key(holder) == 0 || kind >= 7 && len(regsOf(s)) == 0 { // P13.6
		t.Fatal("a holder without a key", holder, kind)
	}
	for nexus := range 16 {
		if s.Fenced(nexus) && (s.Key(nexus) != 0 || s.May(nexus, resv.Write)) { // P13.5
			t.Fatal("fenced off", nexus)
		}
		if (kind == 3 || kind == 6 || kind == 8) && s.May(nexus, resv.Reads) && !s.May(nexus, resv.Write) { // P13.7
			t.Fatal("reads and may not write", nexus)
		}
	}
}
