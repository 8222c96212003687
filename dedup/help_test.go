package dedup_test

import (
	"bytes"
	"encoding/binary"
	"slices"
	"testing"

	"caisson/api"
	"caisson/dedup"
)

const highest = int64(1) << 60

func sameReply(a, b api.Reply) bool {
	return a.Status == b.Status && a.Key == b.Key && a.Asc == b.Asc && a.Ascq == b.Ascq && bytes.Equal(a.Data, b.Data)
}

func isZero(r api.Reply) bool { return sameReply(r, api.Reply{}) }

// replyBytes is the bytes of an answer, also of one with too many data.
func replyBytes(r api.Reply) []byte {
	b := []byte{byte(r.Status), byte(r.Key), byte(r.Asc), byte(r.Ascq)}
	b = binary.BigEndian.AppendUint16(b, uint16(len(r.Data)))
	return append(b, r.Data...)
}

// row is an answer in a table's bytes, whether or not it can be.
type row struct {
	seq   int64
	reply []byte
}

// part is a nexus in a table's bytes, whether or not it can be.
type part struct {
	count int
	floor int64
	rows  []row
}

func (p part) bytes() []byte {
	b := binary.BigEndian.AppendUint64([]byte{byte(p.count)}, uint64(p.floor))
	for _, x := range p.rows {
		b = binary.BigEndian.AppendUint64(b, uint64(x.seq))
		b = binary.BigEndian.AppendUint16(b, uint16(len(x.reply)))
		b = append(b, x.reply...)
	}
	return b
}

// tableBytes is the bytes of a table with these parts of some nexuses, and nothing of the others.
func tableBytes(of map[int]part) []byte {
	var b []byte
	for nexus := range 16 {
		b = append(b, of[nexus].bytes()...)
	}
	return b
}

// partOf is a part with these numbers, each with a short answer of its own.
func partOf(floor int64, seqs ...int64) part {
	p := part{count: len(seqs), floor: floor}
	for i, n := range seqs {
		p.rows = append(p.rows, row{n, replyBytes(api.Reply{Key: i % 256})})
	}
	return p
}

// loadError is Load's error of b, by the plainest means: each piece is there as a whole, or short; then it is looked at.
func loadError(b []byte) api.Errno {
	for range 16 {
		if len(b) < 9 {
			return api.ErrShort
		}
		count, ahead := int(b[0]), int64(binary.BigEndian.Uint64(b[1:]))
		if count > 64 || ahead < 0 || ahead > highest {
			return api.ErrForm
		}
		b = b[9:]
		for range count {
			if len(b) < 10 || len(b)-10 < int(binary.BigEndian.Uint16(b[8:])) {
				return api.ErrShort
			}
			seq, end := int64(binary.BigEndian.Uint64(b)), 10+int(binary.BigEndian.Uint16(b[8:]))
			if seq <= ahead || seq > highest {
				return api.ErrForm
			}
			if _, e := dedup.GetReply(b[10:end]); e != api.OK {
				return e
			}
			ahead, b = seq, b[end:]
		}
	}
	if len(b) > 0 {
		return api.ErrForm
	}
	return api.OK
}

func put(t *testing.T, d *dedup.Table, nexus int, seq int64, r api.Reply) {
	t.Helper()
	if e := d.Put(nexus, seq, r); e != api.OK {
		t.Fatal("Put", nexus, seq, e)
	}
}

// is fails, if Check is not as it is wanted, or has an answer beside anything but Done.
func is(t *testing.T, d *dedup.Table, nexus int, seq int64, want int) {
	t.Helper()
	what, r := d.Check(nexus, seq)
	if what != want || what != dedup.Done && !isZero(r) {
		t.Error("Check", nexus, seq, what, r, "not", want)
	}
}

func load(t *testing.T, b []byte) *dedup.Table {
	t.Helper()
	d, e := dedup.Load(b)
	if e != api.OK || d == nil {
		t.Fatal("Load", e)
	}
	return d
}

// model is a table by the plainest means: of each nexus its floor, and its answers by their numbers.
type model struct {
	floor [16]int64
	kept  [16]map[int64]api.Reply
}

func (m *model) check(nexus int, seq int64) int {
	if nexus < 0 || nexus > 15 || seq < 1 || seq > highest {
		return dedup.Wrong
	}
	if _, ok := m.kept[nexus][seq]; ok {
		return dedup.Done
	}
	if seq <= m.floor[nexus] {
		return dedup.Gone
	}
	return dedup.Fresh
}

func (m *model) put(nexus int, seq int64, r api.Reply) api.Errno {
	switch m.check(nexus, seq) {
	case dedup.Wrong:
		return api.ErrArg
	case dedup.Done, dedup.Gone:
		return api.ErrState
	}
	if m.kept[nexus] == nil {
		m.kept[nexus] = map[int64]api.Reply{}
	}
	m.kept[nexus][seq] = r
	if len(m.kept[nexus]) > 64 {
		least := m.numbers(nexus)[0]
		delete(m.kept[nexus], least)
		m.floor[nexus] = least
	}
	return api.OK
}

func (m *model) forget(nexus int) int {
	if nexus < 0 || nexus > 15 {
		return 0
	}
	n := len(m.kept[nexus])
	m.kept[nexus], m.floor[nexus] = nil, 0
	return n
}

func (m *model) numbers(nexus int) []int64 {
	var l []int64
	for n := range m.kept[nexus] {
		l = append(l, n)
	}
	slices.Sort(l)
	return l
}

func (m *model) last(nexus int) int64 {
	if l := m.numbers(nexus); len(l) > 0 {
		return l[len(l)-1]
	}
	return m.floor[nexus]
}

func (m *model) bytes() []byte {
	of := map[int]part{}
	for nexus := range 16 {
		p := part{count: len(m.kept[nexus]), floor: m.floor[nexus]}
		for _, n := range m.numbers(nexus) {
			p.rows = append(p.rows, row{n, replyBytes(m.kept[nexus][n])})
		}
		of[nexus] = p
	}
	return tableBytes(of)
}
