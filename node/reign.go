package node

import "caisson/api"

// reign is of who leads: its term (0: it does not lead), how many rounds it has sent, how many commands it has proposed.
type reign struct {
	term     int64
	round    int64
	proposed int64
}

// watch sees whether the machine leads no more, or anew.
func (m *machine) watch() {
	info := m.Info()
	term := int64(0)
	if info.Role == api.Leader {
		term = info.Term
	}
	if m.reign.term == term {
		return
	}
	if m.reign.term != 0 {
		m.endReign()
	}
	if term != 0 {
		m.reign = reign{term: term}
		m.lease.Reset()
		m.nextRound()
	}
}

// nextRound is of a round that the replica has just sent; the first one is sent when it begins to lead.
func (m *machine) nextRound() {
	m.reign.round++
	m.lease.Sent(m.reign.round, m.now)
}

// endReign answers what was to be read, and gives the sessions up whose commands were proposed: nobody here knows whether these will be done.
func (m *machine) endReign() {
	m.reign = reign{}
	m.reads.Drop()
	for _, t := range m.reading {
		t.answer(standsBy())
	}
	for _, t := range m.proposed {
		if m.sessions[t.nexus] == t.session {
			m.told = append(m.told, m.heard(t.nexus)...)
			m.sessions[t.nexus] = nil
		}
	}
	m.reading, m.proposed = nil, nil
}

// mayRead tells whether nobody else can lead now, and all that was agreed on ahead of this term is known to be.
func (m *machine) mayRead() bool {
	info := m.Info()
	return m.reign.term != 0 && m.Log().Term(info.Commit) == info.Term && m.lease.Holds(info.Sure, m.now)
}
