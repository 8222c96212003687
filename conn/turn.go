package conn

import (
	"caisson/api"
	"caisson/pdu"
	"caisson/text"
)

// The operations of an initiator.
const (
	nopOut  = 0
	command = 1
	manage  = 2
	login   = 3
	texts   = 4
	dataOut = 5
	logout  = 6
)

// What task management asks for, and how it is answered.
const (
	whatBits = 0x7f
	abort    = 1

	aborted    = 0
	noSuchTask = 1
	notHere    = 5
)

// turn is a letter that waits for its turn: what is to be done then, and how many data it has.
type turn struct {
	do   func()
	data int
}

// take takes a letter that has come, or what is wrong with it.
func (c *Conn) take(p pdu.Pdu, fault api.Errno) {
	full := c.stage == Full
	switch {
	case c.reader.Dead() || !full && fault != api.OK:
		c.close()
	case fault == api.ErrSum:
		c.reject(p, wrongSum)
	case fault != api.OK:
		c.reject(p, wrongForm)
	case full:
		c.takeFull(p)
	case p.Op == login:
		c.login(p)
	default:
		c.close()
	}
}

// takeFull takes a letter behind the login.
func (c *Conn) takeFull(p pdu.Pdu) {
	switch p.Op {
	case nopOut:
		if p.Task == none { // it asks for nothing
			return
		}
		fallthrough
	case command, manage, texts, logout:
		c.queue(p)
	case dataOut:
		c.collect(p)
	case login:
		c.reject(p, wrongForm)
	default:
		c.reject(p, noSuchOp)
	}
}

// queue lets a letter wait for its turn, and does all those whose turn has come.
func (c *Conn) queue(p pdu.Pdu) {
	id := c.last + 1
	if c.window.Come(p.W[1], p.Now, id) != api.OK {
		return
	}
	c.last = id
	c.turns[id] = turn{do: func() { c.perform(p, id) }, data: len(p.Data)}
	for {
		id, ok := c.window.Next()
		if !ok { // so it is, too, when a logout has closed the session
			return
		}
		x := c.turns[id]
		delete(c.turns, id)
		x.do()
	}
}

// perform does what a letter asks for. What is to be done behind it is done by a task, when it ends, if it is one then.
func (c *Conn) perform(p pdu.Pdu, id int64) {
	behind := c.behind(p.Now)
	switch p.Op {
	case nopOut:
		c.echo(p)
	case manage:
		c.manage(p)
	case texts:
		c.answerText(p)
	case logout:
		c.sendStatus(pdu.Pdu{Op: logoutResponse, Flags: final, Task: p.Task})
		c.close()
	case command:
		if c.begin(&task{id: id, letter: p, behind: behind}) {
			return
		}
	}
	behind()
}

// behind is what is to be done behind a letter: of one with a number, that the window has one fewer under way.
func (c *Conn) behind(now bool) func() {
	return func() {
		if !now {
			c.window.Done()
		}
	}
}

// echo answers a NOP-Out.
func (c *Conn) echo(p pdu.Pdu) {
	a := pdu.Pdu{Op: nopIn, Flags: final, Lun: p.Lun, Task: p.Task, Data: p.Data[:min(len(p.Data), c.agreed.MostOut)]}
	a.W[tagWord] = none
	c.sendStatus(a)
}

// manage aborts a task, which is all that it can.
func (c *Conn) manage(p pdu.Pdu) {
	a := pdu.Pdu{Op: managed, Flags: final, B2: notHere, Task: p.Task}
	if p.Flags&whatBits == abort {
		a.B2 = c.abort(p.W[0])
	}
	c.sendStatus(a)
}

func (c *Conn) abort(task uint32) int {
	t := c.find(hasTask(task))
	if t == nil {
		return noSuchTask
	}
	c.end(t)
	return aborted
}

// answerText answers a text, pair by pair.
func (c *Conn) answerText(p pdu.Pdu) {
	pairs, e := text.Get(p.Data)
	if p.Flags&final == 0 || p.Flags&moreBit != 0 || p.W[tagWord] != none || e != api.OK {
		c.reject(p, wrongForm)
		return
	}
	a := pdu.Pdu{Op: textResponse, Flags: final, Lun: p.Lun, Task: p.Task}
	a.W[tagWord] = none
	a.Data, _ = text.Put(c.answersTo(pairs)) // with an error there are none
	c.sendStatus(a)
}

func (c *Conn) answersTo(pairs []text.Pair) []text.Pair {
	var l []text.Pair
	for _, x := range pairs {
		if c.asksForName(x) {
			l = append(l, text.Pair{Key: "TargetName", Val: c.name})
		} else {
			l = append(l, text.Pair{Key: x.Key, Val: "NotUnderstood"})
		}
	}
	return l
}

func (c *Conn) asksForName(x text.Pair) bool {
	return x.Key == "SendTargets" && (x.Val == "All" || x.Val == "" || x.Val == c.name)
}
