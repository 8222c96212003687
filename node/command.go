package node

import (
	"slices"

	"caisson/api"
	"caisson/cdb"
	"caisson/resv"
	"caisson/unit"
)

const (
	mostChanged = 32      // blocks of one command
	lbaEnd      = 1 << 16 // a command of the log has no block from here on
	keysLen     = 24      // of a PrOut
)

// Cmd is what of the log a command is, and true; or, if its data are wrong, true and its answer. Of a command that is not of the log it is false.
func Cmd(c Conf, lun int, b, data []byte) (unit.Cmd, bool, api.Reply) {
	x, e := cdb.Parse(b)
	if !c.canBe() || e != api.OK || !c.hasUnit(lun) {
		return unit.Cmd{}, false, api.Reply{}
	}
	var out unit.Cmd
	var r api.Reply
	switch x.Op {
	case cdb.Write10, cdb.Write16:
		out, r = writing(x, data)
	case cdb.Unmap:
		out, r = unmapping(x, data)
	case cdb.PrOut:
		out, r = reserving(x, data)
	case cdb.Sync10, cdb.TestUnitReady:
		out = unit.Cmd{Kind: unit.Pop}
	default:
		return unit.Cmd{}, false, api.Reply{}
	}
	if r.Status != api.Good {
		return unit.Cmd{}, true, r
	}
	out.Lun = lun
	return out, true, api.Reply{}
}

func writing(x cdb.Cdb, data []byte) (unit.Cmd, api.Reply) {
	if x.Len > mostChanged || len(data) != cdb.Out(x) {
		return unit.Cmd{}, wrongField()
	}
	if !canChange(x.Lba, x.Len) {
		return unit.Cmd{}, outside()
	}
	out := unit.Cmd{Kind: unit.Write}
	for b := range slices.Chunk(data, api.Block) {
		lba := int(x.Lba) + len(out.Changes)
		out.Changes = append(out.Changes, api.Change{Lba: lba, Data: slices.Clone(b)})
	}
	return out, api.Reply{}
}

func unmapping(x cdb.Cdb, data []byte) (unit.Cmd, api.Reply) {
	l, e := cdb.Ranges(data)
	if len(data) != x.Len || e != api.OK || blocksOf(l) > mostChanged {
		return unit.Cmd{}, wrongField()
	}
	out := unit.Cmd{Kind: unit.Unmap}
	for _, r := range l {
		if !canChange(r.Lba, r.N) {
			return unit.Cmd{}, outside()
		}
		for i := range r.N {
			out.Changes = append(out.Changes, api.Change{Lba: int(r.Lba) + i})
		}
	}
	return out, api.Reply{}
}

// blocksOf is how many blocks the ranges have together: of each at most 2^32, and there are few.
func blocksOf(l []cdb.Range) int {
	n := 0
	for _, r := range l {
		n += r.N
	}
	return n
}

// canChange tells whether n blocks from lba on are all ahead of lbaEnd. No blocks are, wherever.
func canChange(lba uint64, n int) bool {
	return n == 0 || lba < lbaEnd && lba+uint64(n) <= lbaEnd
}

func reserving(x cdb.Cdb, data []byte) (unit.Cmd, api.Reply) {
	key, next, e := cdb.Keys(data)
	if x.Len != keysLen || e != api.OK {
		return unit.Cmd{}, wrongField()
	}
	return unit.Cmd{Kind: unit.Pr, Pr: resv.Cmd{Action: x.Service, Key: key, New: next, Type: x.Type}}, api.Reply{}
}
