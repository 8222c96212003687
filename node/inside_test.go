package node

import (
	"bytes"
	"math/rand"
	"slices"
	"testing"

	"caisson/api"
	"caisson/blocks"
	"caisson/chunk"
	"caisson/disk"
	"caisson/entries"
	"caisson/extent"
	"caisson/raft"
	"caisson/resv"
	"caisson/unit"
	"caisson/wal"
)

func newMachine(t *testing.T, me int, c Conf) *machine {
	t.Helper()
	d, e := disk.New(Need(c))
	if e != api.OK {
		t.Fatal(e)
	}
	return started(t, me, c, d)
}

func started(t *testing.T, me int, c Conf, d *disk.Disk) *machine {
	t.Helper()
	m, e := start(me, c, d)
	if e != api.OK {
		t.Fatal("start", e)
	}
	return m
}

// again is the machine that starts behind a crash.
func (m *machine) again(t *testing.T, kept ...int) *machine {
	t.Helper()
	m.Crash(kept)
	return started(t, m.me, m.conf, m.Disk)
}

func (m *machine) gets(x api.Msg) {
	x.To = m.me
	b, _ := entries.PackMsg(x)
	m.handle(x.From, b)
	m.letters = nil
}

// adds is a message with entries behind a place.
func (m *machine) adds(term, at, commit int64, l ...api.Entry) {
	m.gets(api.Msg{Kind: api.Add, From: 2, Term: term, At: at, AtTerm: m.Log().Term(at), L: l, Commit: commit})
}

func noop(term int64) api.Entry { return api.Entry{Kind: api.Noop, Term: term} }

// great is an entry of the greatest command.
func great(term, seq int64) api.Entry {
	x := unit.Cmd{Kind: unit.Write, Seq: seq}
	for i := range 32 {
		x.Changes = append(x.Changes, api.Change{Lba: i, Data: bytes.Repeat([]byte{byte(seq)}, 64)})
	}
	b, e := unit.Bytes(x)
	if e != api.OK {
		panic(e)
	}
	return api.Entry{Kind: api.Write, Term: term, Cmd: b}
}

func sameLog(a, b *entries.Log) bool {
	low, term, members := a.Floor()
	low2, term2, members2 := b.Floor()
	l, l2 := a.Slice(low+1, api.MaxLog), b.Slice(low2+1, api.MaxLog)
	return low == low2 && term == term2 && members == members2 && slices.EqualFunc(l, l2, func(x, y api.Entry) bool {
		return x.Kind == y.Kind && x.Term == y.Term && bytes.Equal(x.Cmd, y.Cmd)
	})
}

// The greatest state that can be has its room, and goes in pieces.
func TestMostState(t *testing.T) {
	for units := 1; units <= api.MaxLuns; units++ {
		for _, count := range []int{1, 9, MostBlocks} {
			s, _ := unit.New(units, count)
			seq := int64(0)
			do := func(nexus int, x unit.Cmd) {
				seq++
				x.Nexus, x.Seq = nexus, seq
				s.Do(x)
			}
			for lun := range units {
				for lba := range count {
					do(0, unit.Cmd{Kind: unit.Write, Lun: lun, Changes: []api.Change{{Lba: lba, Data: make([]byte, 64)}}})
				}
				for range 20 { // notes for all but one, and then keys for all
					for nexus := range 16 {
						do(nexus, unit.Cmd{Kind: unit.Pr, Lun: lun, Pr: resv.Cmd{Action: resv.Ignore, New: uint64(nexus + 1)}})
					}
					do(15, unit.Cmd{Kind: unit.Pr, Lun: lun, Pr: resv.Cmd{Action: resv.Clear, Key: 16}})
				}
			}
			for range 200 {
				for nexus := range 16 {
					do(nexus, unit.Cmd{Kind: unit.Pop, Lun: 255})
				}
			}
			c := Conf{Nodes: 1, Units: units, Blocks: count, Rho: 1}
			n := len(s.Bytes())
			if n > mostState(c) || n < mostState(c)-units*(16*9+16*8) {
				t.Error(c, n, mostState(c))
			}
			if mostState(c) > api.MaxBytes || (mostState(c)+pieceSize-1)/pieceSize > 256 {
				t.Error(c, "it does not go in pieces")
			}
		}
	}
}

// imageComes lets an image of the state as it is come, for another place: of the term that the log has there, or of this one.
func (m *machine) imageComes(term, at int64, same bool) {
	l, _ := chunk.Split(at, m.state.Bytes(), pieceSize)
	x := api.Msg{Kind: api.Part, From: 2, Term: term, At: at, AtTerm: term, Commit: 7}
	if there := m.Log().Term(at); same && there > 0 {
		x.AtTerm = there
	}
	for _, p := range l {
		x.Data = p
		m.gets(x)
	}
}

// What is kept of the log is what it is, behind any crash, however it grew, was cut back and let go of.
func TestJournalAtRandom(t *testing.T) {
	moved, images := 0, 0
	for seed := range int64(15) {
		r := rand.New(rand.NewSource(seed))
		m := newMachine(t, 1, Conf{Nodes: 3, Units: 1, Blocks: 32, Rho: 1})
		term, seq := int64(1), int64(0)
		for range 150 {
			low, _, _ := m.Log().Floor()
			commit, top := m.Info().Commit, m.top()
			at := commit + r.Int63n(top-commit+1)
			if seed%2 == 1 && r.Intn(10) == 0 { // an image comes, of a place that the log has, or has otherwise, or has not
				m.imageComes(term, commit+1+r.Int63n(top-commit+3), r.Intn(2) == 0)
				images++
			} else {
				if at < top { // what is cut back gives way to another term
					term++
				}
				var l []api.Entry
				for range r.Intn(min(17, int(low)+45-int(at))) {
					seq++
					if r.Intn(2) == 0 {
						l = append(l, great(term, seq))
					} else {
						l = append(l, noop(term))
					}
				}
				agreed := at + r.Int63n(int64(len(l))+1)
				if seed%3 == 0 && r.Intn(12) > 0 { // little is agreed on, and the journal grows
					agreed = 0
				}
				m.adds(term, at, agreed, l...)
			}
			if m.dead || !sameLog(m.journal.kept, m.Log()) {
				t.Fatal(seed, "it is not kept")
			}
			if !slices.IsSorted(m.journal.numbers) {
				moved++
			}
			if r.Intn(3) == 0 {
				log, applied, state := m.Log(), m.applied, m.state.Bytes()
				m = m.again(t, r.Intn(1<<16))
				if !sameLog(log, m.Log()) || m.applied > applied {
					t.Fatal(seed, "another log")
				}
				if m.applied == applied && !bytes.Equal(m.state.Bytes(), state) {
					t.Fatal(seed, "another state")
				}
			}
		}
	}
	if moved == 0 || images == 0 {
		t.Error("little happened:", moved, images)
	}
}

// P3, P8: a machine that is given nothing but trouble does not run out of room: flushes fail, and crashes keep any part, as segments that have begun and are empty.
func TestRoom(t *testing.T) {
	for seed := range int64(12) {
		r := rand.New(rand.NewSource(seed))
		m := newMachine(t, 1, Conf{Nodes: 3, Units: 1, Blocks: 32, Rho: 1})
		for n := range seed % 4 * 13 { // with none, some and many entries that are not agreed on
			m.adds(1, m.top(), 0, great(1, n+1))
		}
		for term := int64(2); term < 100; term++ {
			m.gets(api.Msg{Kind: api.Beat, From: 2, Term: term}) // so that the next flush is the log's
			at := m.top()
			if at > 40 || seed%2 == 0 && at > 0 {
				at -= r.Int63n(min(at, 10)) + 1
			}
			before := m.Log()
			m.Fail()
			m.adds(term, at, 0, noop(term))
			if !m.dead {
				t.Fatal("it was not kept")
			}
			kept := []int{1, 0} // the head of a segment
			if seed >= 4 {
				kept = []int{r.Intn(2), r.Intn(1 << 16), r.Intn(2), r.Intn(1 << 16), r.Intn(2)}
			}
			if seed >= 8 {
				kept = slices.Repeat([]int{-1}, 6)
			}
			m = m.again(t, kept...)
			if m.journal.Segments() >= crowded {
				t.Fatal(seed, term, m.journal.Segments())
			}
			if top, last := m.Log().Top(); !sameLog(before, m.Log()) && (last != term || top != at+1) {
				t.Fatal(seed, term, "another log")
			}
		}
		for n := range int64(16) {
			m.adds(1000, m.top(), 0, great(1000, 1000+n))
		}
		if m.dead {
			t.Fatal(seed, "there was no room")
		}
	}
}

// As much as a log may have, of the greatest commands, has its room, again and again.
func TestRoomForTheGreatest(t *testing.T) {
	for _, crash := range []bool{false, true} {
		m := newMachine(t, 1, Conf{Nodes: 3, Units: 3, Blocks: 64, Rho: 1})
		seq := int64(0)
		for range 100 {
			for open := m.top() - m.Info().Commit; open < 17; open = m.top() - m.Info().Commit {
				var l []api.Entry
				for range min(16, 17-open) {
					seq++
					l = append(l, great(1, seq))
				}
				m.adds(1, m.top(), 0, l...)
				if m.dead {
					t.Fatal("there was no room", m.top(), m.journal.Segments())
				}
				log := m.Log()
				if crash {
					m = m.again(t)
				}
				if !sameLog(log, m.Log()) {
					t.Fatal("another log")
				}
			}
			m.adds(1, m.top(), m.Info().Commit+1+seq%16)
			if m.dead {
				t.Fatal("there was no room")
			}
		}
		if m.applied < 500 {
			t.Error(m.applied)
		}
	}
}

// rewritten is a machine that has some entries that are not agreed on, above which others have taken each other's places so many times, and that never stopped.
func rewritten(t *testing.T, times int64) *machine {
	t.Helper()
	m := newMachine(t, 1, Conf{Nodes: 3, Units: 1, Blocks: 32, Rho: 1})
	m.adds(1, 0, 0, great(1, 1), noop(1), great(1, 2))
	for term := int64(2); term < 2+times; term++ {
		var l []api.Entry
		for n := range int64(14) {
			l = append(l, great(term, 100*term+n))
		}
		m.adds(term, 3, 0, l...)
		if m.dead || m.top() != 17 {
			t.Fatal("there was no room", term, m.journal.Segments())
		}
	}
	return m
}

// A log that is cut back and grows again, without an end, has its room; also where the flush fails by which entries are moved.
func TestRoomWithoutAStop(t *testing.T) {
	m := rewritten(t, 60)
	log := m.Log()
	if m = m.again(t); !sameLog(log, m.Log()) {
		t.Fatal("another log")
	}
	moved := 0
	for times := range int64(12) {
		for first := range 12 {
			m := rewritten(t, times)
			log := m.Log()
			m.gets(api.Msg{Kind: api.Beat, From: 2, Term: 1000})
			if m.journal.Segments() >= crowded {
				moved++
			}
			m.Fail()
			m.adds(1000, 3, 0, noop(1000))
			if !m.dead {
				t.Fatal("it was not kept")
			}
			kept := append(make([]int, first), slices.Repeat([]int{-1}, 20)...) // all but some first ones
			if m = m.again(t, kept...); !sameLog(log, m.Log()) && (m.top() != 4 || m.Log().Term(4) != 1000) {
				t.Fatal(times, first, "another log", m.top())
			}
		}
	}
	if moved < 10 {
		t.Error("little was moved:", moved)
	}
}

// What an image has made needless, and a stop has left there, goes when the machine starts.
func TestTidyBehindAnImage(t *testing.T) {
	m := newMachine(t, 1, Conf{Nodes: 3, Units: 1, Blocks: 32, Rho: 1})
	for seq := int64(1); m.journal.Segments() < crowded; seq++ {
		m = m.again(t)
		m.adds(1, m.top(), seq, noop(1))
	}
	m.keepImage(image{at: m.top(), term: 1, members: 7, behind: m.behind(m.top()), state: m.state.Bytes()})
	if m = m.again(t); m.journal.Segments() != 1 || m.top() != m.applied || len(m.journal.numbers) != 0 {
		t.Fatal(m.journal.Segments(), m.top(), m.applied)
	}
}

// Where the log lets go of entries nothing is written anew.
func TestNothingIsWrittenTwice(t *testing.T) {
	m := entriesUpTo(t, 23, Conf{Nodes: 3, Units: 1, Blocks: 32, Rho: 1})
	m.adds(1, 23, 23, noop(1), noop(1))
	next := m.journal.Next()
	m.adds(1, 25, 24)
	if low, _, _ := m.Log().Floor(); low != 24 || m.journal.Next() != next || m.top() != 25 {
		t.Fatal(low, m.journal.Next(), next)
	}
	if m = m.again(t); m.top() != 25 || m.applied != 24 {
		t.Fatal(m.top(), m.applied)
	}
}

// The greatest entry that can be is kept, too.
func TestGreatestEntry(t *testing.T) {
	m := newMachine(t, 1, Conf{Nodes: 3, Units: 1, Blocks: 8, Rho: 1})
	m.adds(1, 0, 0, api.Entry{Kind: api.Write, Term: 1, Cmd: make([]byte, 4080)})
	log := m.Log()
	if m.dead || m.top() != 1 {
		t.Fatal(m.dead, m.top())
	}
	if m = m.again(t); !sameLog(log, m.Log()) {
		t.Fatal("another log")
	}
}

// What has no room makes the machine dead, and what was there ahead of it stays.
func TestNoRoom(t *testing.T) {
	m := newMachine(t, 1, Conf{Nodes: 3, Units: 1, Blocks: 8, Rho: 1})
	for !m.dead {
		if m.top() > 1000 {
			t.Fatal("there is always room")
		}
		log := m.Log()
		m.adds(1, m.top(), 0, slices.Repeat([]api.Entry{{Kind: api.Write, Term: 1, Cmd: make([]byte, 4080)}}, 16)...)
		if m.dead {
			m = m.again(t)
			if top, _ := log.Top(); m.top() < top {
				t.Fatal(m.top(), top)
			}
			return
		}
	}
}

// entriesUpTo has a machine with so many entries of commands, all agreed on, but no image of them yet.
func entriesUpTo(t *testing.T, n int64, c Conf) *machine {
	t.Helper()
	m := newMachine(t, 1, c)
	for i := int64(1); i <= n; i++ {
		m.adds(1, m.top(), i, great(1, i))
	}
	return m
}

// An image that was kept, and a stop ahead of all that is done behind it.
func TestStopBehindAnImage(t *testing.T) {
	for _, above := range []int{0, 3} {
		m := entriesUpTo(t, 20, Conf{Nodes: 3, Units: 2, Blocks: 32, Rho: 1})
		for range above {
			m.adds(1, m.top(), 0, noop(1))
		}
		m.adds(2, 19+int64(above/2), 0) // its log is as it is
		im := image{at: 20, term: 1, members: 7, state: m.state.Bytes()}
		im.behind = m.behind(im.at)
		m.keepImage(im)
		top, state := m.top(), m.state.Bytes()
		for range 3 {
			m = m.again(t)
			low, term, members := m.Log().Floor()
			if low != 20 || term != 1 || members != 7 || m.top() != top || m.applied != 20 || !bytes.Equal(m.state.Bytes(), state) {
				t.Fatal(above, low, m.top(), m.applied)
			}
		}
		m.adds(2, m.top(), 0, noop(2), noop(2))
		log := m.Log()
		if m = m.again(t); !sameLog(log, m.Log()) {
			t.Fatal(above, "another log")
		}
	}
}

// Entries that were cut back below an image's place, and a stop behind the image: what stood above is of elder terms.
func TestStopBehindAnImageOfCutEntries(t *testing.T) {
	m := entriesUpTo(t, 20, Conf{Nodes: 3, Units: 1, Blocks: 32, Rho: 1})
	m.adds(1, 20, 20, noop(1), noop(1), noop(1))
	m.adds(5, 20, 21, noop(5), noop(5), noop(5))
	im := image{at: 21, term: 5, members: 7, state: m.state.Bytes()}
	im.behind = m.behind(im.at)
	m.keepImage(im)
	log, _ := m.Log().Over(21)
	if m = m.again(t); !sameLog(log, m.Log()) || m.applied != 21 {
		t.Fatal("another log", m.top())
	}
}

// An image of another machine, and a stop at each step of taking it.
func TestStopWhileAnImageComes(t *testing.T) {
	c := Conf{Nodes: 3, Units: 2, Blocks: 32, Rho: 1}
	s, _ := unit.New(2, 32)
	for i := range int64(9) {
		x, _ := unit.Parse(great(1, 100+i).Cmd)
		x.Lun = int(i) % 2
		s.Do(x)
	}
	for stop := range 3 {
		m := entriesUpTo(t, 10, c)
		m.adds(1, 10, 10, noop(1), noop(1))
		p := api.Msg{Kind: api.Part, From: 2, To: 1, Term: 1, At: 50, AtTerm: 1, Commit: 7}
		if _, e := m.Settle(p); e != api.OK {
			t.Fatal(e)
		}
		m.keepImage(image{at: 50, term: 1, members: 7, behind: m.behind(50), state: s.Bytes()})
		for lun := range stop {
			if e := m.stores[lun].Replace(50, s.Image(lun)); e != api.OK {
				t.Fatal(e)
			}
		}
		for range 2 {
			m = m.again(t)
			if m.applied != 50 || m.top() != 50 || !bytes.Equal(m.state.Bytes(), s.Bytes()) {
				t.Fatal(stop, m.applied, m.top())
			}
			for lun, x := range m.stores {
				if !x.Image().Same(s.Image(lun)) {
					t.Fatal(stop, "the blocks of", lun)
				}
			}
		}
		m.adds(1, 50, 51, great(1, 200))
		if m = m.again(t); m.applied != 51 || m.dead {
			t.Fatal(stop, m.applied)
		}
	}
}

// An image in the place of a log that has something else there and above, and a stop right behind it: nothing of that comes back.
func TestStopBehindAnImageOfAnotherLog(t *testing.T) {
	for _, above := range []int64{1, 3} { // of a term below the image's, and above it
		m := entriesUpTo(t, 5, Conf{Nodes: 3, Units: 1, Blocks: 32, Rho: 1})
		m.adds(above, 5, 5, noop(1), noop(1), noop(1), noop(above), noop(above))
		m.gets(api.Msg{Kind: api.Beat, From: 2, Term: 4})
		if _, e := m.Settle(api.Msg{Kind: api.Part, From: 2, To: 1, Term: 4, At: 8, AtTerm: 2, Commit: 7}); e != api.OK {
			t.Fatal(e)
		}
		m.keepImage(image{at: 8, term: 2, members: 7, behind: m.behind(8), state: m.state.Bytes()})
		for range 2 {
			m = m.again(t)
			if m.applied != 8 || m.top() != 8 || m.Log().Term(8) != 2 {
				t.Fatal(above, m.applied, m.top())
			}
		}
		m.adds(4, 8, 8, noop(4))
		if m = m.again(t); m.top() != 9 || m.Log().Term(9) != 4 {
			t.Fatal(above, m.top())
		}
	}
}

// An image is kept wholly, or the one ahead of it is: whichever flush fails, and whatever a crash keeps.
func TestImageAtOneStroke(t *testing.T) {
	c := Conf{Nodes: 3, Units: 1, Blocks: 32, Rho: 1}
	for _, kept := range [][]int{nil, {-1}, {1}, {0, -1}, {-1, -1}, {-1, 0}, {2, -1}} {
		for _, n := range []int64{20, 40} { // with no image ahead of it, and with one
			m := entriesUpTo(t, n, c)
			log, state := m.Log(), m.state.Bytes()
			m.Fail()
			m.keepImage(image{at: n, term: 1, members: 7, behind: m.behind(n), state: state})
			if !m.dead {
				t.Fatal("it was not kept")
			}
			if m = m.again(t, kept...); !sameLog(log, m.Log()) || m.applied != n || !bytes.Equal(m.state.Bytes(), state) {
				t.Fatal(kept, n, m.applied)
			}
		}
	}
}

// P21.1: what stands in the journal, the image and the stores, and can not be a machine's.
func TestWhatCanNotBe(t *testing.T) {
	c := Conf{Nodes: 3, Units: 2, Blocks: 8, Rho: 1}
	p := planOf(c)
	record := func(place int64, term int64) []byte { return recordOf(place, noop(term)) }
	journalOf := func(d *disk.Disk, term int64, l ...[]byte) {
		g, _, _, _ := wal.Open(d, p.journal, segments, perSegment)
		g.Set(term, -1)
		for _, b := range l {
			g.Append(b)
		}
		g.Flush()
	}
	imageOf := func(d *disk.Disk, f func(*image)) {
		m := started(t, 1, c, d)
		im := image{at: 30, term: 2, members: 7, behind: 0, state: m.state.Bytes()}
		f(&im)
		m.keepImage(im)
		m.journal.Set(9, -1)
	}
	other, _ := unit.New(1, 8)
	for i, x := range []struct {
		want api.Errno
		f    func(d *disk.Disk)
	}{
		{api.OK, func(d *disk.Disk) { journalOf(d, 3, record(1, 1), record(2, 3)) }},
		{api.ErrForm, func(d *disk.Disk) { journalOf(d, 2, record(1, 1), record(2, 3)) }}, // its term is below the log's
		{api.ErrForm, func(d *disk.Disk) { journalOf(d, 1<<40+1) }},
		{api.OK, func(d *disk.Disk) { journalOf(d, 1<<40) }},
		{api.ErrForm, func(d *disk.Disk) { journalOf(d, 3, []byte("none")) }},
		{api.ErrForm, func(d *disk.Disk) { journalOf(d, 3, nil) }},
		{api.ErrForm, func(d *disk.Disk) { journalOf(d, 3, record(1, 1)[:6]) }},
		{api.ErrForm, func(d *disk.Disk) { journalOf(d, 3, append(record(1, 1), 0)) }},
		{api.ErrForm, func(d *disk.Disk) { journalOf(d, 3, record(1, 2), record(2, 1)) }}, // a term falls
		{api.ErrForm, func(d *disk.Disk) { journalOf(d, 3, record(2, 1)) }},               // the first one is missing
		{api.ErrForm, func(d *disk.Disk) { journalOf(d, 3, record(1, 1), record(3, 1)) }}, // the second one is
		{api.OK, func(d *disk.Disk) { journalOf(d, 3, record(1, 1), record(2, 1), record(1|movedBit, 1)) }},
		{api.OK, func(d *disk.Disk) { journalOf(d, 3, record(2, 1), record(1|movedBit, 1)) }},
		{api.ErrForm, func(d *disk.Disk) { journalOf(d, 3, record(3, 1), record(1|movedBit, 1)) }},
		{api.ErrForm, func(d *disk.Disk) { journalOf(d, 3, record(1, 1), record(1|movedBit, 2)) }},
		{api.OK, func(d *disk.Disk) { journalOf(d, 3, record(1, 1), record(2, 1), record(1, 2)) }},       // cut back
		{api.OK, func(d *disk.Disk) { imageOf(d, func(*image) {}) }},                                     // an image alone
		{api.ErrForm, func(d *disk.Disk) { imageOf(d, func(im *image) { im.term = 10 }) }},               // its term is above the machine's
		{api.ErrForm, func(d *disk.Disk) { imageOf(d, func(im *image) { im.members = 0 }) }},             //
		{api.ErrForm, func(d *disk.Disk) { imageOf(d, func(im *image) { im.members = 32 }) }},            //
		{api.ErrForm, func(d *disk.Disk) { imageOf(d, func(im *image) { im.at = 1<<40 + 1 }) }},          //
		{api.ErrForm, func(d *disk.Disk) { imageOf(d, func(im *image) { im.at = -1 }) }},                 //
		{api.ErrForm, func(d *disk.Disk) { imageOf(d, func(im *image) { im.state = im.state[1:] }) }},    //
		{api.ErrForm, func(d *disk.Disk) { imageOf(d, func(im *image) { im.state = other.Bytes() }) }},   // of one unit
		{api.ErrForm, func(d *disk.Disk) { imageOf(d, func(*image) {}); flip(d, p.head*256+40) }},        //
		{api.ErrForm, func(d *disk.Disk) { imageOf(d, func(*image) {}); flip(d, p.head*256+200) }},       //
		{api.ErrForm, func(d *disk.Disk) { imageOf(d, func(*image) {}); flip(d, (p.slots+p.slot)*256) }}, // in the slot that is in use
		{api.OK, func(d *disk.Disk) { imageOf(d, func(*image) {}); flip(d, p.slots*256) }},               // in the other one
		{api.OK, func(d *disk.Disk) { flip(d, p.slots*256) }},                                            // it stopped ahead of its first image
		{api.ErrForm, func(d *disk.Disk) { flip(d, p.head*256) }},                                        //
		{api.ErrForm, func(d *disk.Disk) { flip(d, p.stores*256) }},                                      //
		{api.ErrForm, func(d *disk.Disk) { flip(d, (p.stores+p.store)*256) }},                            //
		{api.ErrForm, func(d *disk.Disk) { storeOf(t, d, c, 1).Apply(5, nil) }},                          // blocks of entries that the log has not
		{api.ErrForm, func(d *disk.Disk) { // blocks that the entries do not make
			journalOf(d, 3, record(1, 1))
			storeOf(t, d, c, 0).Apply(1, []api.Change{{Lba: 1, Data: make([]byte, 64)}})
		}},
		{api.ErrForm, func(d *disk.Disk) { // blocks that the image has not
			imageOf(d, func(*image) {})
			m, _ := extent.New(8)
			m.Write(0, make([]byte, 64))
			storeOf(t, d, c, 0).Replace(30, m)
		}},
	} {
		d, _ := disk.New(Need(c))
		x.f(d)
		d.Crash(nil)
		was := d.Image()
		n, e := New(1, c, d)
		if e != x.want || (n != nil) != (e == api.OK) {
			t.Error(i, e, "not", x.want)
		}
		if e == api.ErrForm && !bytes.Equal(d.Image(), was) {
			t.Error(i, "the disk was changed")
		}
	}
}

// flip turns bits of a byte of the disk, and makes that safe.
func flip(d *disk.Disk, at int) {
	b, _ := d.Read(at/256, 1)
	b[at%256] ^= 0x55
	d.Write(at/256, b)
	d.Flush()
}

func storeOf(t *testing.T, d *disk.Disk, c Conf, lun int) *blocks.Store {
	t.Helper()
	p := planOf(c)
	s, e := blocks.Open(d, p.stores+lun*p.store, c.Blocks)
	if e != api.OK {
		t.Fatal(e)
	}
	return s
}

// The numbers of a term's commands end ahead of the next one's; the last term of all has none.
func TestNumbersEnd(t *testing.T) {
	m := newMachine(t, 0, Conf{Nodes: 1, Units: 1, Blocks: 8, Rho: 1})
	for range raft.Least {
		m.tick()
	}
	if m.isLogFull() {
		t.Fatal("it is full")
	}
	m.reign.proposed = perTerm - 2
	if _, ok := m.offer(unit.Cmd{Kind: unit.Pop, Seq: 1}); !ok {
		t.Error("there is one more")
	}
	m.reign.proposed++
	if _, ok := m.offer(unit.Cmd{Kind: unit.Pop, Seq: 1}); ok || !m.isLogFull() {
		t.Error("there is none")
	}
	m.reign.proposed = 0
	if _, ok := m.offer(unit.Cmd{Kind: unit.Pop, Seq: 1<<60 + 1}); ok {
		t.Error("a number that can not be")
	}
}
