package conn

import (
	"slices"

	"caisson/api"
	"caisson/pdu"
)

const mostTasks = 64

// What a task is at.
const (
	unasked = iota // it collects data that were not asked for
	asked          // or those of an R2T
	toBeDone
	beingDone
)

// task is a command under way.
type task struct {
	id     int64
	letter pdu.Pdu // its data are those that the task has
	behind func()  // is to be done when it ends
	phase  int
	most   int    // up to how many data are collected in this run
	came   uint32 // how many letters came in this run
	tag    uint32 // of the R2T that began this run
	asks   uint32 // how many R2Ts there were
}

// Bits of a command's Flags.
const (
	readBit  = 0x40
	writeBit = 0x20
)

func reads(p pdu.Pdu) bool  { return p.Flags&readBit != 0 }
func writes(p pdu.Pdu) bool { return p.Flags&writeBit != 0 }
func last(p pdu.Pdu) bool   { return p.Flags&final != 0 }

// length is how many data a command wants to read or write.
func length(p pdu.Pdu) int { return int(p.W[0]) }

// unitOf is the unit that a letter's Lun names; -1, if that is none.
func unitOf(p pdu.Pdu) int {
	const at = 48 // the bits behind its second byte
	n := p.Lun >> at
	if p.Lun != n<<at || n > 0xff {
		return -1
	}
	return int(n)
}

// cdbOf is the 16 bytes of a command, which are its last four words.
func cdbOf(p pdu.Pdu) []byte {
	var b []byte
	for _, w := range p.W[3:] {
		b = append(b, byte(w>>24), byte(w>>16), byte(w>>8), byte(w))
	}
	return b
}

// find is the task that is looked for; nil, if there is none.
func (c *Conn) find(is func(*task) bool) *task {
	at := slices.IndexFunc(c.tasks, is)
	if at < 0 {
		return nil
	}
	return c.tasks[at]
}

// hasTask looks for the task of a Task.
func hasTask(n uint32) func(*task) bool {
	return func(t *task) bool { return t.letter.Task == n }
}

// begin makes a task of a command, or answers it at once: then it is none.
func (c *Conn) begin(t *task) bool {
	p := t.letter
	if reason := c.refusal(p); reason != 0 {
		c.reject(p, reason)
		return false
	}
	switch {
	case len(c.tasks) == mostTasks:
		c.respond(p, api.Reply{Status: api.TaskFull})
		return false
	case writes(p) && (reads(p) || length(p) > api.MaxData):
		c.respond(p, api.Reply{Status: api.Check, Key: 5, Asc: 0x24})
		return false
	}
	c.tasks = append(c.tasks, t)
	t.most = min(c.agreed.First, length(p))
	if last(p) || len(p.Data) == t.most { // what does not write is the last one
		c.goOn(t)
	}
	return true
}

// refusal is the reason with which a command is rejected; 0, if it is not.
func (c *Conn) refusal(p pdu.Pdu) int {
	n := len(p.Data)
	switch {
	case c.find(hasTask(p.Task)) != nil:
		return sameTask
	case n > 0 && (!writes(p) || !c.agreed.Immediate || n > c.agreed.First || n > length(p)):
		return wrongForm
	case !last(p) && (!writes(p) || c.agreed.Asked):
		return wrongForm
	}
	return 0
}

// goOn asks for the data that a task lacks, or lets it be done.
func (c *Conn) goOn(t *task) {
	p := t.letter
	has := len(p.Data)
	if !writes(p) || has >= length(p) {
		t.phase = toBeDone
		c.ready = append(c.ready, t)
		return
	}
	c.tag++
	n := min(c.agreed.Burst, length(p)-has)
	a := pdu.Pdu{Op: readyToTake, Flags: final, Lun: p.Lun, Task: p.Task}
	a.W[tagWord], a.W[statusWord] = c.tag, c.status
	a.W[4], a.W[5], a.W[6] = t.asks, uint32(has), uint32(n)
	c.sendNumbered(a)
	t.phase, t.tag, t.most, t.came = asked, c.tag, has+n, 0
	t.asks++
}

// collect takes the data of a Data-Out.
func (c *Conn) collect(p pdu.Pdu) {
	t := c.find(hasTask(p.Task))
	if t == nil || !t.takes(p) {
		c.reject(p, wrongData)
		return
	}
	t.letter.Data = append(t.letter.Data, p.Data...)
	t.came++
	if last(p) || len(t.letter.Data) == t.most {
		c.goOn(t)
	}
}

// takes tells whether a Data-Out is the next one of this run.
func (t *task) takes(p pdu.Pdu) bool {
	has := len(t.letter.Data)
	then := has + len(p.Data)
	if p.W[4] != t.came || p.W[5] != uint32(has) || then > t.most {
		return false
	}
	switch t.phase {
	case unasked:
		return p.W[tagWord] == none
	case asked:
		return p.W[tagWord] == t.tag && last(p) == (then == t.most)
	}
	return false
}

// end takes a task away.
func (c *Conn) end(t *task) {
	is := func(x *task) bool { return x == t }
	c.tasks = slices.DeleteFunc(c.tasks, is)
	c.ready = slices.DeleteFunc(c.ready, is)
	t.behind()
}
