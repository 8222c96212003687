package node

import (
	"slices"

	"caisson/api"
	"caisson/chunk"
)

// pieceSize is the bytes of an image's pieces.
const pieceSize = 4096

// sender is whose image is gathered, and in which term it was sent.
type sender struct {
	term int64
	from int
}

// sendImages sends the image to all who lack entries below it, piece by piece. It is sent with each tick, as pieces may be lost.
func (m *machine) sendImages() {
	for _, to := range m.Lacking() {
		if m.pieces == nil {
			m.pieces, _ = chunk.Split(m.image.at, m.image.state, pieceSize) // no error: a state has few bytes
		}
		for _, p := range m.pieces {
			m.sendPart(to, p)
		}
	}
}

func (m *machine) sendPart(to int, p []byte) {
	if x, e := m.Part(to, p); e == api.OK {
		m.letters = append(m.letters, x)
	}
}

// lift sends a part without a piece to who has more agreed on than it is sent: entries below its floor, which it refuses, again and again, as a leader never goes up by a refusal. To a part it tells up to where it agrees.
func (m *machine) lift(told api.Msg, answers []api.Msg) {
	if told.Kind != api.AddTold || told.Yes {
		return
	}
	if slices.ContainsFunc(answers, func(x api.Msg) bool { return x.Kind == api.Add && x.At < told.At }) {
		m.sendPart(told.From, nil)
	}
}

// takeParts gathers the parts of an image that came.
func (m *machine) takeParts() {
	for _, p := range m.Parts() {
		if !m.dead {
			m.takePart(p)
		}
	}
}

func (m *machine) takePart(p api.Msg) {
	from := sender{term: p.Term, from: p.From}
	if m.gathered == nil || m.sender != from {
		m.gathered, m.sender = chunk.New(), from
	}
	if m.gathered.Add(p.Data) != api.OK || m.gathered.Id() != p.At {
		return
	}
	b, whole := m.gathered.Whole()
	if !whole {
		return
	}
	m.gathered = nil
	state, ok := m.stateOf(b)
	if !ok {
		return
	}
	letters, e := m.Settle(p)
	if e != api.OK {
		return
	}
	m.letters = append(m.letters, letters...)
	at, term, members := m.Log().Floor()
	m.keepImage(image{at: at, term: term, members: members, behind: m.behind(at), state: b})
	m.state, m.applied = state, at
	for lun, s := range m.stores {
		m.need(s.Replace(at, state.Image(lun)))
	}
}
