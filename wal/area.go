package wal

import (
	"caisson/api"
	"caisson/disk"
)

const (
	slots    = 2
	mostSegs = 64 // segments of an area
	mostPer  = 64 // sectors of a segment
)

// area is where a log stands on its disk: two slots from the sector from on, then the segments.
type area struct{ from, segs, per int }

// isOn does not add from to anything: a great number would go round.
func (a area) isOn(d *disk.Disk) bool {
	return a.from >= 0 && isFrom(2, mostSegs, a.segs) && isFrom(2, mostPer, a.per) && a.from <= d.Size()-a.size()
}

// size is how many sectors the area has.
func (a area) size() int { return slots + a.segs*a.per }

// slot is the sector for a meta record of that epoch.
func (a area) slot(epoch int64) int { return a.from + int(epoch%slots) }

// segment is the one, from 0 on, that has that life.
func (a area) segment(life int64) int { return int((life - 1) % int64(a.segs)) }

// start is the first sector of the segment of that life.
func (a area) start(life int64) int { return a.from + slots + a.segment(life)*a.per }

// end is the first sector behind the segment of that life.
func (a area) end(life int64) int { return a.start(life) + a.per }

func isFrom[N int | int64](least, most, n N) bool { return n >= least && n <= most }

// picture is the bytes of all sectors of an area.
type picture struct {
	area
	bytes []byte
}

// slotSector is the slot i, from 0 on.
func (p picture) slotSector(i int) []byte { return sectors(p.bytes, i, 1) }

// headSector is the first sector of the segment s, from 0 on.
func (p picture) headSector(s int) []byte { return sectors(p.bytes, slots+s*p.per, 1) }

// recordSectors is the other sectors of the segment s.
func (p picture) recordSectors(s int) []byte { return sectors(p.bytes, slots+s*p.per+1, p.per-1) }

// sectors is n sectors of b from at on; it can not grow into those behind them.
func sectors(b []byte, at, n int) []byte {
	end := (at + n) * api.Sector
	return b[at*api.Sector : end : end]
}
