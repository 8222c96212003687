package node

import (
	"caisson/api"
	"caisson/blocks"
)

const mostRho = 4

// Conf is what all machines have alike: how many there are, how many units, of how many blocks, how far clocks may differ.
type Conf struct {
	Nodes  int
	Units  int
	Blocks int
	Rho    int
}

func (c Conf) canBe() bool {
	return isFrom(1, c.Nodes, api.MaxNodes) && isFrom(1, c.Units, api.MaxLuns) && isFrom(1, c.Blocks, MostBlocks) && isFrom(1, c.Rho, mostRho)
}

// members are all machines, as bits.
func (c Conf) members() int { return 1<<c.Nodes - 1 }

func (c Conf) hasUnit(lun int) bool { return lun >= 0 && lun < c.Units }

// Need is how many sectors a machine's disk must have; 0, if there can be no such machine.
func Need(c Conf) int {
	if !c.canBe() {
		return 0
	}
	return planOf(c).end
}

// plan is at which sectors of the disk things begin.
type plan struct {
	head    int // of the image
	slots   int // two of them: one has the image, and the other one the next
	slot    int // sectors of each
	stores  int
	store   int // sectors of each
	journal int
	end     int
}

func planOf(c Conf) plan {
	p := plan{head: 0, slots: 1, slot: sectorsFor(mostState(c)), store: blocks.Need(c.Blocks)}
	p.stores = p.slots + 2*p.slot
	p.journal = p.stores + c.Units*p.store
	p.end = p.journal + journalSectors
	return p
}

// mostState is the most bytes that a state's have (14), as no answer of the log has data.
func mostState(c Conf) int {
	const (
		keys    = 4 + 1 + 1 + 2 + 1 + api.MaxNexus*(1+8)
		notes   = api.MaxNexus * (1 + 8)
		answer  = 8 + 2 + 6
		answers = api.MaxNexus * (1 + 8 + api.MaxKept*answer)
	)
	image := 2 + 2 + c.Blocks*(2+api.Block)
	return 1 + 2 + c.Units*(4+image+2+keys+notes) + answers
}

func sectorsFor(length int) int { return (length + api.Sector - 1) / api.Sector }

func isFrom(least, n, most int) bool { return n >= least && n <= most }
