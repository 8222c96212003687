package unit_test

import (
	"bytes"
	"encoding/binary"
	"slices"
	"testing"

	"caisson/api"
	"caisson/dedup"
	"caisson/extent"
	"caisson/resv"
	"caisson/unit"
)

const highest = int64(1) << 60

var (
	good     = api.Reply{Status: 0}
	busy     = api.Reply{Status: 8}
	conflict = api.Reply{Status: 24}
	outside  = api.Reply{Status: 2, Key: 5, Asc: 0x21}
	wrong    = api.Reply{Status: 2, Key: 5, Asc: 0x24}
	noUnit   = api.Reply{Status: 2, Key: 5, Asc: 0x25}
)

// told is a note's answer.
func told(code int) api.Reply { return api.Reply{Status: 2, Key: 6, Asc: 0x2a, Ascq: code} }

func sameReply(a, b api.Reply) bool {
	return a.Status == b.Status && a.Key == b.Key && a.Asc == b.Asc && a.Ascq == b.Ascq && bytes.Equal(a.Data, b.Data)
}

// full is a block with that byte throughout.
func full(n byte) []byte { return bytes.Repeat([]byte{n}, 64) }

func newState(t *testing.T, units, blocks int) *unit.State {
	t.Helper()
	s, e := unit.New(units, blocks)
	if e != api.OK || s == nil {
		t.Fatal("New", units, blocks, e)
	}
	return s
}

func load(t *testing.T, b []byte) *unit.State {
	t.Helper()
	s, e := unit.LoadState(b)
	if e != api.OK || s == nil {
		t.Fatal("LoadState", e)
	}
	return s
}

// do fails, if a command's answer is not as it is wanted, or it was not done now.
func do(t *testing.T, s *unit.State, c unit.Cmd, want api.Reply) {
	t.Helper()
	if r, now := s.Do(c); !sameReply(r, want) || !now {
		t.Error("Do", c.Kind, c.Nexus, c.Seq, r, now, "not", want)
	}
}

// refused fails, if a command's answer is not as it is wanted, or anything was done.
func refused(t *testing.T, s *unit.State, c unit.Cmd, want api.Reply) {
	t.Helper()
	b := s.Bytes()
	if r, now := s.Do(c); !sameReply(r, want) || now {
		t.Error("Do", c.Kind, c.Nexus, c.Seq, r, now, "not", want)
	}
	if !bytes.Equal(b, s.Bytes()) {
		t.Error("something has changed", c.Kind, c.Nexus, c.Seq)
	}
}

func write(nexus int, seq int64, lun int, lbas ...int) unit.Cmd {
	c := unit.Cmd{Kind: unit.Write, Nexus: nexus, Seq: seq, Lun: lun}
	for _, lba := range lbas {
		c.Changes = append(c.Changes, api.Change{Lba: lba, Data: full(byte(seq))})
	}
	return c
}

func unmap(nexus int, seq int64, lun int, lbas ...int) unit.Cmd {
	c := unit.Cmd{Kind: unit.Unmap, Nexus: nexus, Seq: seq, Lun: lun}
	for _, lba := range lbas {
		c.Changes = append(c.Changes, api.Change{Lba: lba})
	}
	return c
}

func pr(nexus int, seq int64, lun int, p resv.Cmd) unit.Cmd {
	return unit.Cmd{Kind: unit.Pr, Nexus: nexus, Seq: seq, Lun: lun, Pr: p}
}

func pop(nexus int, seq int64, lun int) unit.Cmd {
	return unit.Cmd{Kind: unit.Pop, Nexus: nexus, Seq: seq, Lun: lun}
}

// has fails, if a block of a unit is not there with that byte throughout (0: is there).
func has(t *testing.T, s *unit.State, lun, lba int, n byte) {
	t.Helper()
	m := s.Image(lun)
	b, e := m.Read(lba, 1)
	if e != api.OK || !bytes.Equal(b, full(n)) || m.Has(lba) != (n != 0) {
		t.Error("block", lun, lba, b, e, "not", n)
	}
}

// cmdBytes is the bytes of a command, whether or not it can be.
func cmdBytes(c unit.Cmd) []byte {
	b := []byte{byte(c.Kind), byte(c.Nexus)}
	b = binary.BigEndian.AppendUint64(b, uint64(c.Seq))
	b = append(b, byte(c.Lun), byte(len(c.Changes)))
	for _, x := range c.Changes {
		b = binary.BigEndian.AppendUint16(b, uint16(x.Lba))
		b = append(append(b, byte(len(x.Data))), x.Data...)
	}
	b = append(b, byte(c.Pr.Action))
	b = binary.BigEndian.AppendUint64(b, c.Pr.Key)
	b = binary.BigEndian.AppendUint64(b, c.Pr.New)
	return append(b, byte(c.Pr.Type))
}

func sameCmd(a, b unit.Cmd) bool {
	return a.Kind == b.Kind && a.Nexus == b.Nexus && a.Seq == b.Seq && a.Lun == b.Lun && a.Pr == b.Pr &&
		slices.EqualFunc(a.Changes, b.Changes, func(x, y api.Change) bool { return x.Lba == y.Lba && bytes.Equal(x.Data, y.Data) })
}

// place is a unit in the model, and in a state's bytes, whether or not it can be.
type place struct {
	image []byte
	resv  []byte
	notes [16][]byte
}

// stateBytes is the bytes of a state, whether or not it can be.
func stateBytes(units, blocks int, of []place, answers []byte) []byte {
	b := binary.BigEndian.AppendUint16([]byte{byte(units)}, uint16(blocks))
	for _, p := range of {
		b = append(binary.BigEndian.AppendUint32(b, uint32(len(p.image))), p.image...)
		b = append(binary.BigEndian.AppendUint16(b, uint16(len(p.resv))), p.resv...)
		for _, codes := range p.notes {
			b = append(append(b, byte(len(codes))), codes...)
		}
	}
	return append(b, answers...)
}

// model is a state by the plainest means, on the layers below.
type model struct {
	blocks  int
	images  []*extent.Image
	resv    []*resv.State
	notes   []map[int][]byte // of each unit, by nexus
	answers *dedup.Table
}

func newModel(units, blocks int) *model {
	m := &model{blocks: blocks, answers: dedup.New()}
	for range units {
		image, _ := extent.New(blocks)
		m.images = append(m.images, image)
		m.resv = append(m.resv, resv.New())
		m.notes = append(m.notes, map[int][]byte{})
	}
	return m
}

func (m *model) bytes() []byte {
	var of []place
	for lun := range m.images {
		p := place{image: m.images[lun].Bytes(), resv: m.resv[lun].Bytes()}
		for nexus := range 16 {
			p.notes[nexus] = m.notes[lun][nexus]
		}
		of = append(of, p)
	}
	return stateBytes(len(of), m.blocks, of, m.answers.Bytes())
}

func (m *model) do(c unit.Cmd) (api.Reply, bool) {
	if _, e := unit.Bytes(c); e != api.OK {
		return wrong, false
	}
	switch what, r := m.answers.Check(c.Nexus, c.Seq); what {
	case dedup.Done:
		return r, false
	case dedup.Gone:
		return busy, false
	}
	r := m.answer(c)
	m.answers.Put(c.Nexus, c.Seq, r)
	return r, true
}

func (m *model) answer(c unit.Cmd) api.Reply {
	if c.Lun >= len(m.images) {
		return noUnit
	}
	if l := m.notes[c.Lun][c.Nexus]; len(l) > 0 {
		m.notes[c.Lun][c.Nexus] = l[1:]
		return told(int(l[0]))
	}
	switch c.Kind {
	case unit.Write, unit.Unmap:
		return m.change(c)
	case unit.Pr:
		r, l := m.resv[c.Lun].Do(c.Nexus, c.Pr)
		for _, n := range l {
			if old := m.notes[c.Lun][n.Nexus]; len(old) < 8 {
				m.notes[c.Lun][n.Nexus] = append(slices.Clone(old), byte(n.Code))
			}
		}
		return r
	}
	return good
}

func (m *model) change(c unit.Cmd) api.Reply {
	if !m.resv[c.Lun].May(c.Nexus, resv.Write) {
		return conflict
	}
	for _, x := range c.Changes {
		if x.Lba >= m.blocks {
			return outside
		}
	}
	for _, x := range c.Changes {
		if (len(x.Data) == 0) != (c.Kind == unit.Unmap) {
			return wrong
		}
	}
	for _, x := range c.Changes {
		if c.Kind == unit.Write {
			m.images[c.Lun].Write(x.Lba, x.Data)
		} else {
			m.images[c.Lun].Unmap(x.Lba, 1)
		}
	}
	return good
}
