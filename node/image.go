package node

import (
	"bytes"

	"caisson/api"
	"caisson/entries"
	"caisson/field"
	"caisson/sums"
	"caisson/unit"
)

// imageEvery is behind how many entries the state is kept as an image.
const imageEvery = 24

// imageMark begins the head of an image: with it no head is all 0.
const imageMark = 0x6361696d

const digestAt = api.Sector - 4

// image is a state that stands for all entries up to a place, the log's floor there, and where in the journal the entries above it may stand.
type image struct {
	at      int64
	term    int64
	members int
	behind  int64  // no record of the journal up to this number is of the log any more
	state   []byte // its bytes
}

// headOf is the sector that says that im is in that slot.
func headOf(im image, slot int) []byte {
	w := field.NewWriter()
	w.Num(4, imageMark)
	w.Num(1, int64(slot))
	w.Num(8, im.at)
	w.Num(8, im.term)
	w.Num(1, int64(im.members))
	w.Num(8, im.behind)
	w.Num(4, int64(len(im.state)))
	w.Num(4, int64(sums.Sum(im.state)))
	body, _ := w.End() // no number of an image is too great for its field
	b := make([]byte, digestAt, api.Sector)
	copy(b, body)
	return append(b, sums.Digest(b)...)
}

// keepImage makes an image safe. It is written to the slot that is not in use, and is not in use till the head, which is one sector, says so: a crash keeps the one or the other image, wholly.
func (m *machine) keepImage(im image) {
	slot := 1 - m.slot
	m.need(m.Write(m.slotAt(slot), im.state))
	m.need(m.Flush())
	m.need(m.Write(m.plan.head, headOf(im, slot)))
	m.need(m.Flush())
	m.image, m.slot, m.pieces = im, slot, nil
}

func (m *machine) slotAt(slot int) int { return m.plan.slots + slot*m.plan.slot }

// loadImage reads the image that is in use, and begins with its state; where none ever was, with no entries and nothing in the units.
func (m *machine) loadImage() api.Errno {
	head, e := m.Read(m.plan.head, 1)
	if e != api.OK {
		return e
	}
	if bytes.Equal(head, make([]byte, api.Sector)) {
		m.image = image{members: m.conf.members()}
		m.state, e = unit.New(m.conf.Units, m.conf.Blocks)
		return e
	}
	r := field.NewReader(head)
	r.Num(4)
	m.slot = int(r.Num(1))
	m.image = image{at: r.Num(8), term: r.Num(8), members: int(r.Num(1)), behind: r.Num(8)}
	length := r.Num(4)
	if m.slot > 1 || length > int64(m.plan.slot*api.Sector) {
		return api.ErrForm
	}
	b, e := m.Read(m.slotAt(m.slot), m.plan.slot)
	if e != api.OK {
		return e
	}
	m.image.state = b[:length:length]
	if !bytes.Equal(headOf(m.image, m.slot), head) { // so nothing but an image's head is taken for one
		return api.ErrForm
	}
	return m.adopt()
}

// adopt takes the image's state as the machine's, if it can be.
func (m *machine) adopt() api.Errno {
	if _, e := entries.New(m.image.at, m.image.term, m.image.members); e != api.OK {
		return api.ErrForm
	}
	state, ok := m.stateOf(m.image.state)
	if !ok {
		return api.ErrForm
	}
	m.state, m.applied = state, m.image.at
	return api.OK
}

// stateOf is the state of these bytes, if it is of units as they are here.
func (m *machine) stateOf(b []byte) (*unit.State, bool) {
	s, e := unit.LoadState(b)
	ok := e == api.OK && s.Units() == m.conf.Units && s.Blocks() == m.conf.Blocks
	return s, ok
}

// keepDue keeps the state as an image, if enough entries were done since the last one, and lets the log begin there.
func (m *machine) keepDue() {
	low, _, _ := m.Log().Floor()
	if m.dead || m.applied-low < imageEvery {
		return
	}
	im := image{at: m.applied, term: m.Log().Term(m.applied), members: m.Log().Members(m.applied), state: m.state.Bytes()}
	im.behind = m.behind(im.at)
	m.keepImage(im)
	m.Floor(im.at)
	m.keepLog()
}

// behind is up to which number the journal's records are not needed with an image at that place: if the log has entries above it, it is told by their places which are.
func (m *machine) behind(at int64) int64 {
	if m.top() > at {
		return m.image.behind
	}
	return m.journal.Next() - 1
}
