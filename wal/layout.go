package wal

import (
	"caisson/api"
	"caisson/field"
	"caisson/sums"
)

const (
	sumSize    = 4
	recordHead = 32 // bytes of a record ahead of its own
)

// head is what a segment begins with: its life, the number of its first record, the epoch.
type head struct{ life, first, epoch int64 }

// slotBytes is a slot's sector.
func slotBytes(epoch int64, m Meta) []byte {
	w := field.NewWriter()
	w.Num(8, epoch)
	w.Num(8, m.Term)
	w.Num(8, int64(m.Vote)+1)
	w.Num(8, m.Base)
	return sealedSector(w)
}

// readSlot is the epoch and the meta record of a slot, if it is right.
func readSlot(sector []byte) (int64, Meta, bool) {
	if !isSealed(sector) {
		return 0, Meta{}, false
	}
	r := field.NewReader(sector[sumSize:])
	epoch, term, voteAndOne, base := r.Num(8), r.Num(8), r.Num(8), r.Num(8)
	if !isFrom(1, greatest, epoch) || !isFrom(0, greatest, term) || !isFrom(0, api.MaxNodes, voteAndOne) || !isFrom(0, greatest, base) {
		return 0, Meta{}, false
	}
	return epoch, Meta{Term: term, Vote: int(voteAndOne) - 1, Base: base}, true
}

// headBytes is the sector of a segment's head.
func headBytes(h head) []byte {
	w := field.NewWriter()
	w.Num(8, h.life)
	w.Num(8, h.first)
	w.Num(8, h.epoch)
	return sealedSector(w)
}

// readHead is the head in a sector, if it is right but for its place.
func readHead(sector []byte) (head, bool) {
	if !isSealed(sector) {
		return head{}, false
	}
	r := field.NewReader(sector[sumSize:])
	h := head{life: r.Num(8), first: r.Num(8), epoch: r.Num(8)}
	if !isFrom(1, greatest, h.life) || !isFrom(1, greatest, h.first) || !isFrom(1, greatest, h.epoch) {
		return head{}, false
	}
	return h, true
}

// recordBytes is the record b, of the segment with the head h, as it stands on the disk.
func recordBytes(h head, number int64, b []byte) []byte {
	w := field.NewWriter()
	w.Num(8, h.life)
	w.Num(8, number)
	w.Num(8, h.epoch)
	w.Bytes(4, b)
	body, _ := w.End() // numbers of 8 bytes, and bytes that Append has measured, always go
	return sealed(body)
}

// readRecord is the record that stands as that number at the beginning of b, the sectors left of the segment with the head h.
func readRecord(b []byte, h head, number int64) ([]byte, bool) {
	if len(b) < recordHead {
		return nil, false
	}
	r := field.NewReader(b[sumSize:recordHead])
	if r.Num(8) != h.life || r.Num(8) != number || r.Num(8) != h.epoch {
		return nil, false
	}
	length := r.Num(4)
	if length > api.MaxRecord || length > int64(len(b)-recordHead) {
		return nil, false
	}
	end := recordHead + int(length)
	if !isSealed(b[:end]) {
		return nil, false
	}
	return b[recordHead:end:end], true
}

// sectorsFor is how many sectors a record of so many bytes takes.
func sectorsFor(length int) int {
	return (recordHead + length + api.Sector - 1) / api.Sector
}

// sealedSector is what w has written in a sector, with 0 behind it, and its sum ahead.
func sealedSector(w *field.Writer) []byte {
	body, _ := w.End() // numbers of 8 bytes always go
	rest := make([]byte, api.Sector-sumSize)
	copy(rest, body)
	return sealed(rest)
}

// sealed is body with its sum ahead.
func sealed(body []byte) []byte {
	w := field.NewWriter()
	w.Num(sumSize, int64(sums.Sum(body)))
	sum, _ := w.End() // a sum has just these bytes
	out := make([]byte, sumSize+len(body))
	copy(out[copy(out, sum):], body)
	return out
}

// isSealed tells whether b begins with the sum of what stands behind it.
func isSealed(b []byte) bool {
	sum, e := field.Get(b, 0, sumSize)
	return e == api.OK && sum == uint64(sums.Sum(b[sumSize:]))
}
