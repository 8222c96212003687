package resv

import (
	"slices"

	"caisson/api"
)

// action is what a command with that number does.
type action struct {
	number int
	asks   bool // whether it is refused to whoever has no key, or tells another one
	do     func(nexus int, c Cmd) (api.Reply, []Note)
}

func (s *State) actions() [6]action {
	return [...]action{
		{Register, false, s.register},
		{Reserve, true, s.reserve},
		{Release, true, s.release},
		{Clear, true, s.clear},
		{Preempt, true, s.preempt},
		{Ignore, false, s.ignore},
	}
}

// Do does a command of a nexus: its answer, and who is to be told what.
func (s *State) Do(nexus int, c Cmd) (api.Reply, []Note) {
	if s == nil || !isNexus(nexus) {
		return wrong(), nil
	}
	for _, a := range s.actions() {
		if a.number != c.Action {
			continue
		}
		if a.asks && (!s.isRegistrant(nexus) || c.Key != s.keys[nexus]) {
			return conflict(), nil
		}
		return a.do(nexus, c)
	}
	return wrong(), nil
}

func (s *State) register(nexus int, c Cmd) (api.Reply, []Note) {
	if c.Key != s.keys[nexus] {
		return conflict(), nil
	}
	return s.ignore(nexus, c)
}

// ignore is what registering does, whatever key was told.
func (s *State) ignore(nexus int, c Cmd) (api.Reply, []Note) {
	if c.New == 0 {
		return good(), s.leave(nexus)
	}
	s.keys[nexus], s.fenced[nexus] = c.New, false
	s.gen++
	return good(), nil
}

// leave takes the nexus' own key away, and the reservation with it, if nobody holds that any more.
func (s *State) leave(nexus int) []Note {
	if !s.isRegistrant(nexus) {
		return nil
	}
	held := s.holds(nexus) && !isEach(s.kind)
	s.takeKey(nexus)
	s.gen++
	var l codes
	if held || !s.anyRegistrant() {
		if s.kind == WritesRegs || s.kind == AllRegs {
			s.tellOthers(nexus, Released, &l)
		}
		s.end()
	}
	return l.notes()
}

func (s *State) reserve(nexus int, c Cmd) (api.Reply, []Note) {
	switch {
	case !isType(c.Type):
		return wrong(), nil
	case s.kind == none:
		s.holder, s.kind = nexus, c.Type
	case !s.holds(nexus) || s.kind != c.Type:
		return conflict(), nil
	}
	return good(), nil
}

func (s *State) release(nexus int, c Cmd) (api.Reply, []Note) {
	if !s.holds(nexus) {
		return good(), nil
	}
	if c.Type != s.kind {
		return wrongRelease(), nil
	}
	var l codes
	if s.kind > All {
		s.tellOthers(nexus, Released, &l)
	}
	s.end()
	return good(), l.notes()
}

func (s *State) clear(nexus int, _ Cmd) (api.Reply, []Note) {
	var l codes
	s.tellOthers(nexus, Preempted, &l)
	for registrant := range s.Regs() {
		s.takeKey(registrant)
	}
	s.end()
	s.gen++
	return good(), l.notes()
}

func (s *State) preempt(nexus int, c Cmd) (api.Reply, []Note) {
	switch {
	case !isType(c.Type):
		return wrong(), nil
	case s.isHeldWith(c.New):
		return good(), s.takeOver(nexus, c)
	case c.New == 0:
		return wrong(), nil
	case !slices.Contains(s.keys[:], c.New):
		return conflict(), nil
	}
	// Whoever preempts is a registrant and stays one: a reservation is never left with none.
	var l codes
	s.takeFromOthers(nexus, c.New, &l)
	s.gen++
	return good(), l.notes()
}

// isHeldWith tells whether preempting that key takes over the reservation: one that each registrant holds goes by 0 alone, as no single key stands for it.
func (s *State) isHeldWith(key uint64) bool {
	if s.kind == none {
		return false
	}
	if isEach(s.kind) {
		return key == 0
	}
	return key == s.keys[s.holder]
}

// takeOver makes the nexus the holder in place of whoever has the key New.
func (s *State) takeOver(nexus int, c Cmd) []Note {
	asItWas := s.kind == c.Type && s.holds(nexus)
	var l codes
	s.takeFromOthers(nexus, c.New, &l)
	if !asItWas {
		s.tellOthers(nexus, Released, &l)
	}
	s.holder, s.kind = nexus, c.Type
	s.gen++
	return l.notes()
}

// takeFromOthers takes that key (0: any key) away from all others that have it.
func (s *State) takeFromOthers(nexus int, key uint64, l *codes) {
	for other, its := range s.Regs() {
		if other != nexus && (key == 0 || its == key) {
			s.takeKey(other)
			l[other] = Unregistered
		}
	}
}

// tellOthers has all other registrants told that code.
func (s *State) tellOthers(nexus, code int, l *codes) {
	for other := range s.Regs() {
		if other != nexus {
			l[other] = code
		}
	}
}

func (s *State) takeKey(nexus int) {
	s.keys[nexus], s.fenced[nexus] = 0, true
}

func (s *State) end() {
	s.holder, s.kind = 0, none
}

// codes is what each nexus is to be told of a command; 0 is nothing.
type codes [api.MaxNexus]int

func (l codes) notes() []Note {
	var out []Note
	for nexus, code := range l {
		if code != 0 {
			out = append(out, Note{nexus, code})
		}
	}
	return out
}

func good() api.Reply { return api.Reply{Status: api.Good} }

func conflict() api.Reply { return api.Reply{Status: api.Conflict} }

func wrong() api.Reply { return api.Reply{Status: api.Check, Key: 5, Asc: 0x24} }

func wrongRelease() api.Reply { return api.Reply{Status: api.Check, Key: 5, Asc: 0x26, Ascq: 4} }
