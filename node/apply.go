package node

import (
	"slices"

	"caisson/api"
	"caisson/unit"
)

// doAgreed does the entries that are agreed on, in order, and answers those that wait for them.
func (m *machine) doAgreed() {
	for commit := m.Info().Commit; m.applied < commit && !m.dead; {
		x, r, changed := m.perform()
		if changed {
			m.need(m.stores[x.Lun].Apply(m.applied, x.Changes))
		}
		m.answerProposed(x, r)
	}
}

// perform does the next entry: what of the log it is, its answer, and whether it has changed blocks. An entry that is no command does nothing, on all machines alike.
func (m *machine) perform() (unit.Cmd, api.Reply, bool) {
	m.applied++
	e, _ := m.Log().At(m.applied)
	if e.Kind != api.Write {
		return unit.Cmd{}, api.Reply{}, false
	}
	x, wrong := unit.Parse(e.Cmd)
	if wrong != api.OK {
		return unit.Cmd{}, api.Reply{}, false
	}
	r, now := m.state.Do(x)
	changes := x.Kind == unit.Write || x.Kind == unit.Unmap
	return x, r, now && changes && r.Status == api.Good
}

// answerProposed answers the command that waits for this one of the log, if one does.
func (m *machine) answerProposed(x unit.Cmd, r api.Reply) {
	at := slices.IndexFunc(m.proposed, func(t task) bool { return t.number == x.Seq })
	if at < 0 {
		return
	}
	t := m.proposed[at]
	m.proposed = slices.Delete(m.proposed, at, at+1)
	// What was to be told to a nexus may have been told by a command ahead of this one: then it is read, here in the log's order.
	if t.reads && r.Status == api.Good {
		r = m.read(t)
	}
	t.answer(r)
}
