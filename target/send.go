package target

import (
	"caisson/api"
	"caisson/cluster"
	"caisson/conn"
	"caisson/past"
)

// What a command that is sent may be.
const (
	cdbSize    = 16
	mostData   = 2048
	highestLun = 255
)

// Send sends a command of a connection to the machine at: the number of its call; -1, if it can not be sent.
func (t *Target) Send(nexus, at int, a past.Ask) int {
	if t.isNone() || !t.takes(nexus, at, a) {
		return nobody
	}
	number := len(t.calls)
	t.time++
	t.calls = append(t.calls, call{Call: past.Call{Conn: nexus, A: copyOf(a), Begin: t.time}})
	s := t.logIn(nexus, at)
	t.calls[number].in = s
	t.post(nexus, at, s.command(number, a))
	return number
}

func (t *Target) takes(nexus, at int, a past.Ask) bool {
	if t.closed || nexus < 0 || nexus >= api.MaxNexus || !t.cluster.Up(at) || len(t.calls) >= api.MaxScript {
		return false
	}
	return len(a.Cdb) == cdbSize && len(a.Data) <= mostData && a.Lun >= 0 && a.Lun <= highestLun
}

// logIn is the session of a connection with a machine: a new one, if the machine has none any more.
func (t *Target) logIn(nexus, at int) *session {
	if s := t.sessions[nexus][at]; s != nil && t.cluster.Node(at).Stage(nexus) == conn.Full {
		return s
	}
	s := newSession()
	t.sessions[nexus][at] = s
	t.post(nexus, at, s.login())
	return s
}

// post lets bytes come to a machine.
func (t *Target) post(nexus, at int, b []byte) {
	t.hear(t.cluster.Do(api.Event{Kind: api.EvBytes, Node: at, N: nexus, B: b}))
}

// hear takes what initiators are told: how many calls were told an answer.
func (t *Target) hear(told []cluster.Told) int {
	n := 0
	for _, x := range told {
		s := t.sessions[x.Conn][x.Node]
		for number, r := range s.read(x.Data) {
			if t.tell(s, number, r) {
				n++
			}
		}
	}
	return n
}

// tell tells a call its answer, if one of that number waits for it in that session.
func (t *Target) tell(s *session, number int, r api.Reply) bool {
	if number >= len(t.calls) || t.calls[number].in != s || t.calls[number].Told {
		return false
	}
	t.time++
	c := &t.calls[number]
	c.Told, c.End, c.R = true, t.time, r
	t.told.Add(1)
	return true
}
