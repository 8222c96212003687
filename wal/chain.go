package wal

import (
	"slices"

	"caisson/api"
	"caisson/disk"
)

// found is the log of what stands in an area of d, and its records above the base.
func found(d *disk.Disk, p picture) (*Log, [][]byte) {
	l := &Log{disk: d, area: p.area}
	l.epoch, l.meta = p.meta()
	heads := p.heads()
	chain, records := p.chain(heads, l.meta.Base)
	l.chain, l.next = chain, nextOf(chain, records)
	if l.next <= l.meta.Base {
		l.chain, l.next, records = nil, l.meta.Base+1, nil
	}
	l.stray = stray(heads, l.next)
	l.exposed = len(l.chain) == 0 && len(heads) > 0
	above := records[len(records)-int(l.next-l.meta.Base-1):]
	return l, copies(above)
}

// copies shares no memory with the picture.
func copies(records [][]byte) [][]byte {
	out := make([][]byte, 0, len(records))
	for _, b := range records {
		out = append(out, slices.Clone(b))
	}
	return out
}

// meta is the meta record, and its epoch.
func (p picture) meta() (int64, Meta) {
	epoch, m := int64(0), Meta{Vote: -1}
	for i := range slots {
		if other, n, ok := readSlot(p.slotSector(i)); ok && other > epoch {
			epoch, m = other, n
		}
	}
	return epoch, m
}

// head is that of the segment s, if it is right there.
func (p picture) head(s int) (head, bool) {
	h, ok := readHead(p.headSector(s))
	if !ok || p.segment(h.life) != s {
		return head{}, false
	}
	return h, true
}

// heads is those of all segments whose head is right.
func (p picture) heads() []head {
	var out []head
	for s := range p.segs {
		if h, ok := p.head(s); ok {
			out = append(out, h)
		}
	}
	return out
}

// chain is the heads of the segments of the chain, and its records, from the first head's number on. The records are pieces of the picture.
func (p picture) chain(heads []head, base int64) ([]head, [][]byte) {
	first, ok := beginning(heads, base)
	if !ok {
		return nil, nil
	}
	chain, records := []head{first}, p.records(first)
	for len(chain) < p.segs {
		h, ok := p.head(p.segment(chain[len(chain)-1].life + 1))
		if !ok || !follows(h, chain, nextOf(chain, records)) {
			break
		}
		kept := h.first - first.first
		records = append(records[:kept:kept], p.records(h)...)
		chain = append(chain, h)
	}
	return chain, records
}

// beginning is the head that begins the chain.
func beginning(heads []head, base int64) (head, bool) {
	var best head
	for _, h := range heads {
		if h.first <= base+1 && isLater(h, best) {
			best = h
		}
	}
	return best, best.life > 0
}

func isLater(h, than head) bool {
	return h.epoch > than.epoch || h.epoch == than.epoch && h.life > than.life
}

// follows tells whether the segment of h stands behind those of the chain.
func follows(h head, chain []head, next int64) bool {
	last := chain[len(chain)-1]
	return h.life == last.life+1 && h.epoch >= last.epoch && isFrom(chain[0].first, next, h.first)
}

// records is those that stand in the segment of h, one behind the other.
func (p picture) records(h head) [][]byte {
	var out [][]byte
	left := p.recordSectors(p.segment(h.life))
	for {
		b, ok := readRecord(left, h, h.first+int64(len(out)))
		if !ok {
			return out
		}
		out = append(out, b)
		left = left[sectorsFor(len(b))*api.Sector:]
	}
}

// nextOf is the number behind the records of a chain.
func nextOf(chain []head, records [][]byte) int64 {
	if len(chain) == 0 {
		return 0
	}
	return chain[0].first + int64(len(records))
}

// stray is the least first number of a segment behind the next number: records ahead of it are lost. It is 0, if there is none.
func stray(heads []head, next int64) int64 {
	var least int64
	for _, h := range heads {
		if h.first > next && (least == 0 || h.first < least) {
			least = h.first
		}
	}
	return least
}

// cutAt is the chain without the segments, but the first one, that have only records from n on.
func cutAt(chain []head, n int64) []head {
	out := []head{chain[0]}
	for _, h := range chain[1:] {
		if h.first < n {
			out = append(out, h)
		}
	}
	return out
}

// droppedTo is the chain without the segments whose records are all up to n, as another one behind them goes on from there.
func droppedTo(chain []head, n int64) []head {
	for i := len(chain) - 1; i > 0; i-- {
		if chain[i].first <= n+1 {
			return slices.Clone(chain[i:])
		}
	}
	return chain
}
