package unit

import (
	"caisson/api"
	"caisson/field"
	"caisson/resv"
)

// How many bytes the numbers of commands and of states have.
const (
	byteSize   = 1
	lbaSize    = 2
	seqSize    = 8
	keySize    = 8
	blocksSize = 2
	imageSize  = 4 // of an image's length
	resvSize   = 2 // of the length of reservations
)

const (
	mostChanges = 32
	highestSeq  = 1 << 60
	highestLba  = 1<<16 - 1
)

// Cmd is a command of a nexus: its number, the unit, what is to be done.
type Cmd struct {
	Kind    int
	Nexus   int
	Seq     int64
	Lun     int
	Changes []api.Change
	Pr      resv.Cmd
}

// Bytes is a command as bytes.
func Bytes(c Cmd) ([]byte, api.Errno) {
	if !c.canBe() {
		return nil, api.ErrArg
	}
	w := field.NewWriter()
	w.Num(byteSize, int64(c.Kind))
	w.Num(byteSize, int64(c.Nexus))
	w.Num(seqSize, c.Seq)
	w.Num(byteSize, int64(c.Lun))
	w.Num(byteSize, int64(len(c.Changes)))
	for _, x := range c.Changes {
		w.Num(lbaSize, int64(x.Lba))
		w.Bytes(byteSize, x.Data)
	}
	w.Num(byteSize, int64(c.Pr.Action))
	w.Num(keySize, int64(c.Pr.Key))
	w.Num(keySize, int64(c.Pr.New))
	w.Num(byteSize, int64(c.Pr.Type))
	return w.End()
}

// Parse is the command that Bytes has written as b.
func Parse(b []byte) (Cmd, api.Errno) {
	r := field.NewReader(b)
	var c Cmd
	c.Kind = int(r.Num(byteSize))
	c.Nexus = int(r.Num(byteSize))
	c.Seq = r.Num(seqSize)
	c.Lun = int(r.Num(byteSize))
	for range r.Count(byteSize, mostChanges) {
		c.Changes = append(c.Changes, api.Change{Lba: int(r.Num(lbaSize)), Data: r.Bytes(byteSize)})
	}
	c.Pr.Action = int(r.Num(byteSize))
	c.Pr.Key = uint64(r.Num(keySize))
	c.Pr.New = uint64(r.Num(keySize))
	c.Pr.Type = int(r.Num(byteSize))
	if e := r.End(); e != api.OK {
		return Cmd{}, e
	}
	if !c.canBe() {
		return Cmd{}, api.ErrArg
	}
	return c, api.OK
}

// canBe tells whether the command has bytes.
func (c Cmd) canBe() bool {
	if !isFrom(Write, c.Kind, Pop) || !isFrom(0, c.Nexus, api.MaxNexus-1) || c.Seq < 1 || c.Seq > highestSeq {
		return false
	}
	if !isByte(c.Lun) || !isByte(c.Pr.Action) || !isByte(c.Pr.Type) || len(c.Changes) > mostChanges {
		return false
	}
	for _, x := range c.Changes {
		if !isFrom(0, x.Lba, highestLba) || len(x.Data) != 0 && len(x.Data) != api.Block {
			return false
		}
	}
	return true
}

func isByte(n int) bool { return isFrom(0, n, 255) }

func isFrom(least, n, most int) bool { return n >= least && n <= most }
