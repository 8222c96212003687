package conn

import (
	"caisson/api"
	"caisson/pdu"
	"caisson/text"
	"caisson/window"
)

// places is how many commands may be under way by their numbers.
const places = 32

// The codes with which a login fails.
const (
	wrongLogin   = 0x200
	noSuchTarget = 0x203
	wrongVersion = 0x205
	nameMissing  = 0x207
)

// moreBit of Flags says that a text goes on in the next letter, which nobody here waits for.
const moreBit = 0x40

// The pair by which the initiator is told how many data a letter may bring.
const mostInKey = "MaxRecvDataSegmentLength"

// step is what the Flags of a login say: at which stage it is, the next one, and whether it goes on to that.
type step struct {
	at, next int
	on       bool
}

func stepOf(p pdu.Pdu) step {
	return step{at: p.Flags >> 2 & 3, next: p.Flags & 3, on: p.Flags&final != 0}
}

// canBe tells whether the step leads to a stage, and on.
func (s step) canBe() bool { return !s.on || s.next > s.at && s.next != 2 }

// login takes a login's letter ahead of Full.
func (c *Conn) login(p pdu.Pdu) {
	s := stepOf(p)
	first := c.window == nil
	if first {
		c.window, _ = window.New(p.W[1], places) // no error: so many places can be
	}
	if first && s.at == Talking {
		c.stage = Talking
	}
	answers, agreed, code := c.talk(p, s, first)
	if code != 0 {
		c.fail(p, code)
		return
	}
	c.agreed = agreed
	c.welcome(p, s, answers)
	if s.on {
		c.enter(s.next)
	}
}

// talk is what a login is answered, and what is agreed on then; or the code with which it fails.
func (c *Conn) talk(p pdu.Pdu, s step, first bool) ([]text.Pair, text.Params, uint32) {
	code := uint32(0)
	pairs, wrong := text.Get(p.Data)
	answers, agreed, refused := text.Talk(c.agreed, pairs)
	switch {
	case p.B3 != 0:
		code = wrongVersion
	case !p.Now || p.Flags&moreBit != 0 || s.at != c.stage || !s.canBe():
		code = wrongLogin
	case wrong != api.OK || refused != api.OK:
		code = wrongLogin
	case first && (agreed.Initiator == "" || !agreed.Discovery && agreed.Target == ""):
		code = nameMissing
	case !agreed.Discovery && agreed.Target != c.name:
		code = noSuchTarget
	}
	return answers, agreed, code
}

// welcome sends the response to a login that does not fail.
func (c *Conn) welcome(p pdu.Pdu, s step, answers []text.Pair) {
	a := pdu.Pdu{Op: loginResponse, Flags: s.at * 4, Lun: p.Lun, Task: p.Task}
	if s.on {
		a.Flags |= final | s.next
	}
	if s.next == Full {
		a.Lun = a.Lun&^0xffff | 1
	}
	if c.stage == Talking && !c.told {
		answers = append(answers, text.Pair{Key: mostInKey, Val: text.Digits(mostIn)})
		c.told = true
	}
	a.Data, _ = text.Put(answers) // with an error there are none
	c.sendStatus(a)
}

// enter goes on to the next stage. Digests begin behind the last letter of the login.
func (c *Conn) enter(stage int) {
	c.stage = stage
	if stage == Full {
		c.sums.HeadSum, c.sums.DataSum = c.agreed.HeadSum, c.agreed.DataSum
		c.reader.Set(pdu.Opts{HeadSum: c.agreed.HeadSum, DataSum: c.agreed.DataSum, Most: mostIn})
	}
}
