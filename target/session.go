package target

import (
	"iter"
	"math"
	"slices"

	"caisson/api"
	"caisson/cdb"
	"caisson/node"
	"caisson/past"
	"caisson/pdu"
	"caisson/sense"
	"caisson/text"
)

// The operations of the letters that an initiator sends here, or hears.
const (
	command  = 1
	login    = 3
	response = 33
	dataIn   = 37
)

// Bits of Flags.
const (
	final  = 0x80
	reads  = 0x40
	writes = 0x20

	talkingToFull = 1<<2 | 3 // of a login: from the stage Talking to Full
)

// The words of a letter: a command's length and the first one of its bytes, the number of an initiator's letter, the highest number that the target takes.
const (
	lengthWord  = 0
	numberWord  = 1
	highestWord = 3
	cdbWord     = 3
)

const (
	firstNumber = 1
	lunAt       = 48 // the bits of Lun below a unit's number
	senseAt     = 2  // where a response's sense begins, behind its length
	initiator   = "initiator"
)

// session is an initiator's with a machine.
type session struct {
	reader  *pdu.Reader
	next    uint32 // the number of the next command
	highest uint32 // the highest one that the machine takes
	data    []byte // of the command whose response comes next
}

// noDigests is what a session's letters are written and read by.
func noDigests() pdu.Opts { return pdu.Opts{Most: api.MaxBytes} }

func newSession() *session {
	r, _ := pdu.New(noDigests()) // no error: these can be
	return &session{reader: r, next: firstNumber}
}

// login is the one letter by which the session comes to the stage Full, with all that may be agreed on as it is at first.
func (s *session) login() []byte {
	p := pdu.Pdu{Op: login, Now: true, Flags: final | talkingToFull}
	p.W[numberWord] = s.next
	p.Data, _ = text.Put([]text.Pair{{Key: "InitiatorName", Val: initiator}, {Key: "TargetName", Val: node.Name}}) // no error: these can be
	return put(p)
}

// command is the letter of a call's command. One whose number is too high the machine does not take: then the next one has that number, or all behind it would wait for ever.
func (s *session) command(number int, a past.Ask) []byte {
	p := pdu.Pdu{Op: command, Flags: final, Lun: uint64(a.Lun) << lunAt, Task: uint32(number), Data: a.Data}
	p.W[numberWord] = s.next
	for i, b := range a.Cdb {
		w := &p.W[cdbWord+i/4]
		*w = *w<<8 | uint32(b)
	}
	in := lengthIn(a.Cdb)
	if in > 0 {
		p.Flags |= reads
		p.W[lengthWord] = uint32(min(in, math.MaxUint32))
	}
	if len(a.Data) > 0 {
		p.Flags |= writes
		p.W[lengthWord] = uint32(len(a.Data))
	}
	if s.next <= s.highest {
		s.next++
	}
	return put(p)
}

// lengthIn is how many data a command's 16 bytes ask for.
func lengthIn(b []byte) int {
	x, e := cdb.Parse(b)
	if e != api.OK {
		return 0
	}
	return cdb.In(x)
}

func put(p pdu.Pdu) []byte {
	b, _ := pdu.Put(p, noDigests()) // no error: no letter here is too long
	return b
}

// read goes through the answers in bytes of the machine, with the numbers of their calls. When many commands are answered at once these are more bytes than a Reader takes at once.
func (s *session) read(b []byte) iter.Seq2[int, api.Reply] {
	return func(yield func(int, api.Reply) bool) {
		if s == nil {
			return
		}
		for piece := range slices.Chunk(b, api.MaxBytes) {
			s.reader.Feed(piece)
			for p, e, ok := s.reader.Next(); ok && e == api.OK; p, e, ok = s.reader.Next() {
				r, whole := s.take(p)
				if whole && !yield(int(p.Task), r) {
					return
				}
			}
		}
	}
}

// take takes a letter of the machine: an answer, if it ends one.
func (s *session) take(p pdu.Pdu) (api.Reply, bool) {
	s.highest = p.W[highestWord]
	switch p.Op {
	case dataIn: // a machine sends these, and the response to the same command, one behind the other
		s.data = append(s.data, p.Data...)
	case response:
		r := api.Reply{Status: p.B3, Data: s.data}
		s.data = nil
		if r.Status == api.Check && len(p.Data) > senseAt {
			r.Key, r.Asc, r.Ascq, _ = sense.Read(p.Data[senseAt:])
		}
		return r, true
	}
	return api.Reply{}, false
}
