package node

import (
	"caisson/api"
	"caisson/blocks"
	"caisson/chunk"
	"caisson/conn"
	"caisson/disk"
	"caisson/entries"
	"caisson/lease"
	"caisson/raft"
	"caisson/unit"
)

// machine is a replica on a disk, with the units that its log makes, and sessions of initiators.
type machine struct {
	*raft.Raft
	*disk.Disk

	me   int
	conf Conf
	dead bool
	now  int64 // how often its clock has ticked

	plan    plan
	journal *journal
	image   image
	slot    int      // that the image is in
	pieces  [][]byte // of the image, as soon as somebody needs it
	stores  []*blocks.Store

	state   *unit.State
	applied int64

	reign    reign
	lease    *lease.Lease
	sessions [api.MaxNexus]*conn.Conn
	proposed []task // those that wait for the log
	reading  []task // those that wait to be read
	reads    *lease.Reads
	asked    int64 // the number of the last one that was to be read

	gathered *chunk.Reader // pieces of an image
	sender   sender        // of these

	letters []api.Msg // to other machines, when all is safe
	told    []Out     // of sessions that were given up
}

// need marks the machine dead, if what it needs from the disk has failed.
func (m *machine) need(e api.Errno) {
	if e != api.OK {
		m.dead = true
	}
}

func (m *machine) top() int64 {
	n, _ := m.Log().Top()
	return n
}

// handle lets bytes of another machine come.
func (m *machine) handle(from int, b []byte) {
	x, e := entries.UnpackMsg(b)
	if e != api.OK || x.From != from {
		return
	}
	answers := m.Take(x)
	m.letters = append(m.letters, answers...)
	m.lift(x, answers)
	m.settleDown()
}

// tick lets the clock go on.
func (m *machine) tick() {
	m.now++
	term := m.reign.term
	m.letters = append(m.letters, m.Tick()...)
	m.watch()
	if term != 0 && m.reign.term == term {
		m.nextRound()
	}
	m.sendImages()
	m.settleDown()
}

// bytes lets bytes of an initiator come.
func (m *machine) bytes(nexus int, b []byte) {
	if len(b) == 0 {
		return
	}
	s := m.sessions[nexus]
	if s == nil || s.Stage() == conn.Closed {
		s, _ = conn.New(Name) // no error: the name can be
		m.sessions[nexus] = s
	}
	s.Feed(b)
	if s.Stage() == conn.Closed {
		m.forget(s)
	}
	for x, ok := s.Next(); ok && !m.dead; x, ok = s.Next() {
		m.serve(nexus, x)
		m.settleDown()
	}
}

// settleDown does all that is to be done behind what has come, till nothing is left: what the replica has is made safe ahead of all else.
func (m *machine) settleDown() {
	for again := true; again && !m.dead; {
		m.watch()
		m.keepVote()
		m.takeParts()
		m.keepLog()
		m.doAgreed()
		m.keepDue()
		again = m.serveReads()
	}
}

// keepVote makes the term and the vote safe. It is done ahead of the log: no entry of a term may be there, and the term not.
func (m *machine) keepVote() {
	info, meta := m.Info(), m.journal.Meta()
	if info.Term != meta.Term || info.Voted != meta.Vote {
		m.need(m.journal.Set(info.Term, info.Voted))
	}
}

func (m *machine) keepLog() {
	if !m.dead {
		m.need(m.journal.keep(m.Log()))
	}
}

// sends is what is to be sent: nothing of a machine that is dead.
func (m *machine) sends() []Out {
	letters, out := m.letters, m.told
	m.letters, m.told = nil, nil
	if m.dead {
		return nil
	}
	for _, x := range letters {
		if b, e := entries.PackMsg(x); e == api.OK {
			out = append(out, Out{To: x.To, Data: b})
		}
	}
	for nexus := range m.sessions {
		out = append(out, m.heard(nexus)...)
	}
	return out
}

// heard is what the initiator of a connection is to get.
func (m *machine) heard(nexus int) []Out {
	b := m.sessions[nexus].Out()
	if len(b) == 0 {
		return nil
	}
	return []Out{{Conn: true, To: nexus, Data: b}}
}
