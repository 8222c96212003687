package blocks

import (
	"bytes"

	"caisson/api"
	"caisson/extent"
	"caisson/field"
	"caisson/sums"
)

// A sector of a store has its name ahead, its body, 0 behind that, and the digest of all of it at its end. The name tells a store's sector from any other's and from one at another place.
const (
	mark      = 0x63616973 // with it no sector that was written is all 0
	markSize  = 4
	numSize   = 2
	nameSize  = markSize + 2*numSize
	digestAt  = api.Sector - 4
	headPlace = 0
)

const (
	perGroup   = 3 // blocks of a sector, beside its name and its digest
	mostGroups = (api.MaxBlocks + perGroup - 1) / perGroup
)

// area is the sectors of a store.
type area struct {
	from, blocks int
}

// head is what a stroke ends with: its number, and which of its two places each group is at. (Which blocks are there stands in the head's sector, too.)
type head struct {
	applied int64
	turned  [mostGroups]int
}

func groupsOf(blocks int) int { return (blocks + perGroup - 1) / perGroup }

func groupOf(lba int) int { return lba / perGroup }

// place is where in the area the group g stands, or is to stand next.
func place(g, turned int) int { return headPlace + 1 + 2*g + turned }

// span is the first block of the group g, and how many there are; the last group may have fewer.
func (a area) span(g int) (int, int) {
	first := g * perGroup
	return first, min(perGroup, a.blocks-first)
}

// groupSector is the group g of m as the sector at its place.
func (a area) groupSector(at, g int, m *extent.Image) []byte {
	body, _ := m.Read(a.span(g))
	return a.seal(at, body)
}

// headSector is the head, and which blocks of m are there, as a sector.
func (a area) headSector(h head, m *extent.Image) []byte {
	w := field.NewWriter()
	w.Num(8, h.applied)
	w.Bytes(1, pack(a.blocks, m.Has))
	w.Bytes(1, pack(groupsOf(a.blocks), func(g int) bool { return h.turned[g] == 1 }))
	body, _ := w.End() // at most 8, 1 and 32, 1 and 11 bytes
	return a.seal(headPlace, body)
}

// seal is the sector of that body at a place of the area.
func (a area) seal(at int, body []byte) []byte {
	w := field.NewWriter()
	w.Num(markSize, mark)
	w.Num(numSize, int64(a.blocks))
	w.Num(numSize, int64(at))
	name, _ := w.End()
	b := make([]byte, digestAt, api.Sector)
	copy(b, name)
	copy(b[nameSize:], body)
	return append(b, sums.Digest(b)...)
}

// load is the head and the blocks that stand in the area's bytes, if a store can have written them.
func (a area) load(b []byte) (head, *extent.Image, bool) {
	h, m, ok := a.loadHead(sector(b, headPlace))
	for g := 0; ok && g < groupsOf(a.blocks); g++ {
		ok = a.loadGroup(b, g, h, m)
	}
	if !ok {
		return head{}, nil, false
	}
	return h, m, true
}

// loadHead is the head, and an image that has its blocks, all of them 0 yet. What it has read must give the very sector again: so nothing else is taken for a head.
func (a area) loadHead(b []byte) (head, *extent.Image, bool) {
	var h head
	m, _ := extent.New(a.blocks)
	if isZero(b) {
		return h, m, true
	}
	r := field.NewReader(b[nameSize:])
	h.applied = r.Num(8)
	there, turned := r.Bytes(1), r.Bytes(1)
	for lba := range a.blocks {
		if bit(there, lba) == 1 {
			m.Write(lba, make([]byte, api.Block))
		}
	}
	for g := range groupsOf(a.blocks) {
		h.turned[g] = bit(turned, g)
	}
	ok := h.applied >= 1 && h.applied <= highest && bytes.Equal(a.headSector(h, m), b)
	return h, m, ok
}

// loadGroup gives those blocks of the group g their bytes that m has.
func (a area) loadGroup(b []byte, g int, h head, m *extent.Image) bool {
	at, other := place(g, h.turned[g]), place(g, 1-h.turned[g])
	now := sector(b, at)
	first, n := a.span(g)
	for i := range n {
		if m.Has(first + i) {
			from := nameSize + i*api.Block
			m.Write(first+i, now[from:from+api.Block])
		}
	}
	return a.canStand(sector(b, other), other, n) && a.isGroup(now, at, g, h, m)
}

// canStand tells whether a stroke can have written b, of n blocks, at its place, whether or not it was done in the end.
func (a area) canStand(b []byte, at, n int) bool {
	return isZero(b) || bytes.Equal(a.seal(at, b[nameSize:nameSize+n*api.Block]), b)
}

// isGroup tells whether b is what the head's stroke, or one ahead of it, has written of the group. A group that never was written stands at the first of its places, as 0.
func (a area) isGroup(b []byte, at, g int, h head, m *extent.Image) bool {
	if !isZero(b) {
		return h.applied > 0 && bytes.Equal(a.groupSector(at, g, m), b)
	}
	first, n := a.span(g)
	for i := range n {
		if m.Has(first + i) {
			return false
		}
	}
	return h.turned[g] == 0
}

// sector is the bytes at a place of the area; it can not grow into those behind them.
func sector(b []byte, at int) []byte {
	end := (at + 1) * api.Sector
	return b[at*api.Sector : end : end]
}

// pack is n bits, the first one the lowest of the first byte.
func pack(n int, is func(int) bool) []byte {
	b := make([]byte, (n+7)/8)
	for i := range n {
		if is(i) {
			b[i/8] |= 1 << (i % 8)
		}
	}
	return b
}

// bit is the bit i of those that pack has made; 0, where there is none.
func bit(b []byte, i int) int {
	if i/8 >= len(b) {
		return 0
	}
	return int(b[i/8] >> (i % 8) & 1)
}

func isZero(b []byte) bool {
	for _, c := range b {
		if c != 0 {
			return false
		}
	}
	return true
}
