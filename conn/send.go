package conn

import (
	"slices"

	"caisson/api"
	"caisson/pdu"
	"caisson/sense"
)

// The operations of a target.
const (
	nopIn          = 32
	response       = 33
	managed        = 34
	loginResponse  = 35
	textResponse   = 36
	dataIn         = 37
	logoutResponse = 38
	readyToTake    = 49 // an R2T
	rejected       = 63
)

// Bits of Flags: the first one is of most letters, the others of a response.
const (
	final = 0x80
	over  = 4
	under = 2
)

// The words of a letter that are named in more than one operation.
const (
	tagWord = iota
	statusWord
	expectedWord
	highestWord
)

// none is the Task, or the tag, of no task.
const none = 0xffffffff

// The reasons of a reject.
const (
	wrongSum  = 2
	wrongForm = 4
	noSuchOp  = 5
	sameTask  = 7
	wrongData = 9
)

// send lets a letter be sent.
func (c *Conn) send(p pdu.Pdu) {
	b, _ := pdu.Put(p, c.sums) // no error: nothing that is sent here is too long
	c.out = append(c.out, b...)
}

// sendNumbered sends a letter with the window's numbers.
func (c *Conn) sendNumbered(p pdu.Pdu) {
	p.W[expectedWord], p.W[highestWord] = c.window.Expected(), c.window.Highest()
	c.send(p)
}

// sendStatus sends a letter with status.
func (c *Conn) sendStatus(p pdu.Pdu) {
	p.W[statusWord] = c.status
	c.sendNumbered(p)
	c.status++
}

// reject refuses a letter, and sends its head back.
func (c *Conn) reject(p pdu.Pdu, reason int) {
	p.Data = nil
	head, _ := pdu.Put(p, pdu.Opts{Most: mostOut}) // no error: it was read
	c.sendStatus(pdu.Pdu{Op: rejected, Flags: final, B2: reason, Task: none, Data: head})
}

// fail refuses a login.
func (c *Conn) fail(p pdu.Pdu, code uint32) {
	a := pdu.Pdu{Op: loginResponse, Task: p.Task}
	a.W[4] = code << 16
	c.sendStatus(a)
	c.close()
}

// respond sends what a command is answered with: its data, if there are some, and how it ended.
func (c *Conn) respond(p pdu.Pdu, r api.Reply) {
	a := pdu.Pdu{Op: response, Flags: final, B3: r.Status & 0xff, Task: p.Task}
	if reads(p) && r.Status == api.Good {
		a.W[4] = c.sendData(p.Task, r.Data[:min(len(r.Data), length(p))])
		switch more := len(r.Data) - length(p); {
		case more > 0:
			a.Flags |= over
			a.W[6] = uint32(more)
		case more < 0:
			a.Flags |= under
			a.W[6] = uint32(-more)
		}
	}
	if r.Status == api.Check {
		a.Data = senseOf(r)
	}
	c.sendStatus(a)
}

// sendData sends the data of a command that reads, in as many letters as it tells.
func (c *Conn) sendData(task uint32, data []byte) uint32 {
	letters, ahead := uint32(0), 0
	for piece := range slices.Chunk(data, c.agreed.MostOut) {
		p := pdu.Pdu{Op: dataIn, Task: task, Data: piece}
		p.W[tagWord], p.W[4], p.W[5] = none, letters, uint32(ahead)
		letters++
		ahead += len(piece)
		if ahead == len(data) {
			p.Flags = final
		}
		c.sendNumbered(p)
	}
	return letters
}

// senseOf is the data of a response that is a Check: the sense, with its length ahead.
func senseOf(r api.Reply) []byte {
	b, e := sense.Data(r)
	if e != api.OK {
		return nil
	}
	return append([]byte{0, byte(len(b))}, b...)
}
