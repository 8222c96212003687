package past

import (
	"caisson/api"
	"caisson/cdb"
	"caisson/node"
	"caisson/sense"
	"caisson/unit"
)

const (
	highestLba = 65535 // that is read
	eachFrom   = 7     // from this type of a reservation on each registrant holds it: no key is the holder's own
)

// What a PrIn asks for.
const (
	askKeys   = 0
	askHolder = 1
)

// World is the units, as one command after another makes them.
type World struct {
	conf  node.Conf
	state *unit.State
	last  int64 // the number of the last command that State's Do was given
}

// New is the units with nothing in them.
func New(c node.Conf) (*World, api.Errno) {
	if node.Need(c) == 0 {
		return nil, api.ErrArg
	}
	s, e := unit.New(c.Units, c.Blocks)
	if e != api.OK {
		return nil, e
	}
	return &World{conf: c, state: s}, api.OK
}

// Do does a command of a connection, as who leads does: its answer.
func (w *World) Do(conn int, a Ask) api.Reply {
	if w.isNone() {
		return check(0x25)
	}
	if !isNexus(conn) {
		return check(0x24)
	}
	const leader = 0 // any machine would do, but for Ports
	if r, ok := node.Local(w.conf, leader, leader, a.Lun, a.Cdb); ok {
		return r
	}
	c, ofLog, r := node.Cmd(w.conf, a.Lun, a.Cdb, a.Data)
	switch {
	case r.Status != api.Good:
		return r
	case ofLog:
		return w.perform(conn, c)
	case w.state.Pending(conn, a.Lun):
		return w.perform(conn, unit.Cmd{Kind: unit.Pop, Lun: a.Lun})
	}
	return w.read(conn, a)
}

// Copy is another world as it is.
func (w *World) Copy() *World {
	if w.isNone() {
		return nil
	}
	return &World{conf: w.conf, state: w.state.Copy(), last: w.last}
}

// isNone is of nil, and of a World that New did not make.
func (w *World) isNone() bool { return w == nil || w.state == nil }

// perform does a command of the log, with a number that none had.
func (w *World) perform(conn int, c unit.Cmd) api.Reply {
	w.last++
	c.Nexus, c.Seq = conn, w.last
	r, _ := w.state.Do(c)
	return r
}

// read is what a command that is not of the log is answered.
func (w *World) read(conn int, a Ask) api.Reply {
	x, _ := cdb.Parse(a.Cdb) // no error: it is not wrong
	if x.Op == cdb.PrIn {
		return w.readKeys(a.Lun, x)
	}
	if x.Lba > highestLba {
		return check(0x21)
	}
	return w.state.Read(conn, a.Lun, int(x.Lba), x.Len)
}

// readKeys is what a PrIn is answered.
func (w *World) readKeys(lun int, x cdb.Cdb) api.Reply {
	s := w.state.Resv(lun)
	var b []byte
	switch x.Service {
	case askKeys:
		var keys []uint64
		for _, key := range s.Regs() {
			keys = append(keys, key)
		}
		b, _ = sense.Keys(s.Gen(), keys) // no error, nor below: all of it is of a state
	case askHolder:
		holder, kind := s.Holder()
		key := s.Key(holder)
		if kind >= eachFrom {
			key = 0
		}
		b, _ = sense.Holder(s.Gen(), key, kind)
	default:
		return check(0x24)
	}
	return api.Reply{Status: api.Good, Data: sense.Cut(b, cdb.In(x))}
}

// answers does a call's command, and tells whether it is answered as it was told, if it was.
func (w *World) answers(c Call) bool {
	r := w.Do(c.Conn, c.A)
	return !c.Told || isSame(r, c.R)
}

func isSame(a, b api.Reply) bool {
	return a.Status == b.Status && a.Key == b.Key && a.Asc == b.Asc && a.Ascq == b.Ascq && string(a.Data) == string(b.Data)
}

func isNexus(n int) bool { return n >= 0 && n < api.MaxNexus }

// check says that something of a command is wrong.
func check(asc int) api.Reply {
	return api.Reply{Status: api.Check, Key: 5, Asc: asc}
}
