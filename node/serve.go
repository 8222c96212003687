package node

import (
	"slices"

	"caisson/api"
	"caisson/cdb"
	"caisson/conn"
	"caisson/lease"
	"caisson/resv"
	"caisson/sense"
	"caisson/unit"
)

const (
	mostOpen   = 16      // entries of the log that are not agreed on
	perTerm    = 1 << 20 // numbers of commands, the first of which is not given
	highestLba = 65535   // that is read
)

// task is a command of a session that waits.
type task struct {
	number  int64 // of the command of the log that it waits for, or of the read
	index   int64 // what was agreed on when it came to be read
	session *conn.Conn
	id      int64 // by which the session knows it
	nexus   int
	lun     int
	command cdb.Cdb
	reads   bool
}

// answer tells the session, if it still wants to know.
func (t task) answer(r api.Reply) { t.session.Answer(t.id, r) }

// serve answers a command that a session has to be done, or lets it wait.
func (m *machine) serve(nexus int, d conn.Do) {
	command, _ := cdb.Parse(d.Cdb)
	t := task{session: m.sessions[nexus], id: d.Id, nexus: nexus, lun: d.Lun, command: command}
	if r, ok := Local(m.conf, m.me, m.Info().Leader, d.Lun, d.Cdb); ok {
		t.answer(r)
		return
	}
	x, ofLog, r := Cmd(m.conf, d.Lun, d.Cdb, d.Data)
	switch {
	case r.Status != api.Good:
		t.answer(r)
	case m.isLogFull() || m.reads.Len() >= lease.Most:
		t.answer(takesNoMore())
	case ofLog:
		m.propose(t, x)
	default:
		m.ask(t)
	}
}

// isLogFull tells whether too much is not agreed on. Behind the last number of a term the next one's begin, and none may be given twice.
func (m *machine) isLogFull() bool {
	return m.top()-m.Info().Commit >= mostOpen || m.reign.proposed >= perTerm-1
}

// propose lets a command of the log be agreed on, and the task wait for it.
func (m *machine) propose(t task, x unit.Cmd) {
	t.number = m.reign.term*perTerm + m.reign.proposed + 1
	x.Nexus, x.Seq = t.nexus, t.number
	letters, ok := m.offer(x)
	if !ok {
		t.answer(takesNoMore())
		return
	}
	m.reign.proposed++
	m.letters = append(m.letters, letters...)
	m.proposed = append(m.proposed, t)
}

// offer is what is to be sent of a new entry; false, if the log takes none. (In the last term that can be there are no numbers for commands.)
func (m *machine) offer(x unit.Cmd) ([]api.Msg, bool) {
	b, e := unit.Bytes(x)
	if e != api.OK || m.isLogFull() {
		return nil, false
	}
	_, letters, e := m.Offer(api.Write, b)
	return letters, e == api.OK
}

// ask lets a task wait to be read.
func (m *machine) ask(t task) {
	m.asked++
	t.number, t.index, t.reads = m.asked, m.Info().Commit, true
	m.reads.Ask(t.number, t.index) // no error: that there is room was asked, and the number is new
	m.reading = append(m.reading, t)
}

// serveReads reads what may be read now, and tells whether anything was proposed in place of that.
func (m *machine) serveReads() bool {
	if m.dead || len(m.reading) == 0 || !m.mayRead() {
		return false
	}
	before := m.reign.proposed
	for number := range m.reads.Ready(m.applied) {
		at := slices.IndexFunc(m.reading, func(t task) bool { return t.number == number })
		t := m.reading[at]
		m.reading = slices.Delete(m.reading, at, at+1)
		if m.state.Pending(t.nexus, t.lun) {
			m.propose(t, unit.Cmd{Kind: unit.Pop, Lun: t.lun})
		} else {
			t.answer(m.read(t))
		}
	}
	return m.reign.proposed > before
}

// read is the answer of the units to a command that reads.
func (m *machine) read(t task) api.Reply {
	x := t.command
	switch x.Op {
	case cdb.PrIn:
		return m.readKeys(t)
	case cdb.Read10, cdb.Read16:
		if x.Lba <= highestLba {
			return m.state.Read(t.nexus, t.lun, int(x.Lba), x.Len)
		}
	}
	return outside()
}

// readKeys is the answer to a PrIn.
func (m *machine) readKeys(t task) api.Reply {
	s := m.state.Resv(t.lun)
	switch t.command.Service {
	case 0:
		var keys []uint64
		for _, key := range s.Regs() {
			keys = append(keys, key)
		}
		b, e := sense.Keys(s.Gen(), keys)
		return cut(t.command, b, e)
	case 1:
		holder, kind := s.Holder()
		key := s.Key(holder)
		if kind == resv.WritesEach || kind == resv.AllEach { // all registrants hold it, and none of their keys is its own
			key = 0
		}
		b, e := sense.Holder(s.Gen(), key, kind)
		return cut(t.command, b, e)
	}
	return wrongField()
}

// waits is how many commands of sessions wait.
func (m *machine) waits() int { return len(m.proposed) + len(m.reading) }

// forget lets nothing wait any more for a session that is closed.
func (m *machine) forget(s *conn.Conn) {
	of := func(t task) bool { return t.session == s }
	m.proposed = slices.DeleteFunc(m.proposed, of)
	m.reading = slices.DeleteFunc(m.reading, of)
	m.reads.Drop()
	for _, t := range m.reading {
		m.reads.Ask(t.number, t.index)
	}
}
