package unit

import (
	"caisson/api"
	"caisson/extent"
	"caisson/resv"
)

// mostNotes is how many notes of a unit wait for a nexus.
const mostNotes = 8

// unit is one of the units.
type unit struct {
	image *extent.Image
	resv  *resv.State
	notes [api.MaxNexus]notes
}

// row is what a command of that kind does.
type row struct {
	kind int
	do   func(c Cmd) api.Reply
}

func (u *unit) rows() [4]row {
	return [...]row{
		{Write, u.write},
		{Unmap, u.unmap},
		{Pr, u.reserve},
		{Pop, u.pop},
	}
}

// do does a command, or tells its nexus the first note that waits for it, in place of doing it.
func (u *unit) do(c Cmd) api.Reply {
	if code := u.notes[c.Nexus].take(); code != 0 {
		return check(6, 0x2a, code)
	}
	for _, x := range u.rows() {
		if x.kind == c.Kind {
			return x.do(c)
		}
	}
	return wrong()
}

func (u *unit) write(c Cmd) api.Reply { return u.change(c, api.Block) }

func (u *unit) unmap(c Cmd) api.Reply { return u.change(c, 0) }

// change does all changes of a command, each of which must have so many bytes, or none of them.
func (u *unit) change(c Cmd, size int) api.Reply {
	if !u.resv.May(c.Nexus, resv.Write) {
		return conflict()
	}
	for _, x := range c.Changes {
		if x.Lba >= u.image.Size() {
			return outside()
		}
	}
	for _, x := range c.Changes {
		if len(x.Data) != size {
			return wrong()
		}
	}
	u.image.Change(c.Changes) // that all of them can be was asked
	return good()
}

func (u *unit) reserve(c Cmd) api.Reply {
	r, told := u.resv.Do(c.Nexus, c.Pr)
	for _, n := range told {
		u.notes[n.Nexus].add(n.Code)
	}
	return r
}

// pop does nothing: whoever sends it wants to be told the note that waits.
func (u *unit) pop(Cmd) api.Reply { return good() }

// notes is the codes that wait for a nexus, the first one first.
type notes struct {
	count int
	codes [mostNotes]int
}

// add lets go of a note that is one too many.
func (n *notes) add(code int) {
	if n.count < mostNotes {
		n.codes[n.count] = code
		n.count++
	}
}

// take is the first code, which waits no more; 0, if none does.
func (n *notes) take() int {
	if n.count == 0 {
		return 0
	}
	first := n.codes[0]
	copy(n.codes[:], n.codes[1:n.count])
	n.count--
	return first
}
