package entries

import "caisson/api"

const (
	mostCmd = 4080 // bytes of an entry's command
	allBits = 1<<api.MaxNodes - 1
)

// part is what stands at a place of a log: its floor, a change of its members, or another entry.
type part interface{ itsTerm() int64 }

// floor stands for all that was agreed on up to its place.
type floor struct {
	at, term int64
	members  int
}

// change is a Config.
type change struct {
	term    int64
	members int
}

// plain is an entry of another kind. Its command is a text: nobody can write into it.
type plain struct {
	kind int
	term int64
	cmd  string
}

func (f floor) itsTerm() int64  { return f.term }
func (c change) itsTerm() int64 { return c.term }
func (p plain) itsTerm() int64  { return p.term }

// partOf is of an entry that can be.
func partOf(e api.Entry) part {
	if e.Kind == api.Config {
		return change{term: e.Term, members: int(e.Cmd[0])}
	}
	return plain{kind: e.Kind, term: e.Term, cmd: string(e.Cmd)}
}

// entryOf is the entry that p is, if it is one.
func entryOf(p part) (api.Entry, bool) {
	switch x := p.(type) {
	case change:
		return api.Entry{Kind: api.Config, Term: x.term, Cmd: []byte{byte(x.members)}}, true
	case plain:
		return api.Entry{Kind: x.kind, Term: x.term, Cmd: []byte(x.cmd)}, true
	}
	return api.Entry{}, false
}

// membersOf is who is a member from the place of p on, if p says that.
func membersOf(p part) (int, bool) {
	switch x := p.(type) {
	case floor:
		return x.members, true
	case change:
		return x.members, true
	}
	return 0, false
}

func isChange(p part) bool {
	_, ok := p.(change)
	return ok
}

// isNumber tells whether n can be a term, a place or a round.
func isNumber(n int64) bool { return n >= 0 && n <= api.MaxTicks }

func isMask(members int) bool { return members >= 1 && members <= allBits }

func canBe(e api.Entry) bool {
	if e.Term < 1 || e.Term > api.MaxTicks || len(e.Cmd) > mostCmd {
		return false
	}
	switch e.Kind {
	case api.Noop, api.Write:
		return true
	case api.Config:
		return len(e.Cmd) == 1 && isMask(int(e.Cmd[0]))
	}
	return false
}
