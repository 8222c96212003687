package resv_test

import (
	"bytes"
	"math"
	"math/rand"
	"slices"
	"testing"

	"caisson/resv"
)

func note(nexus, code int) resv.Note { return resv.Note{Nexus: nexus, Code: code} }

// step is a command, what it answers, and what is there behind it.
type step struct {
	name   string
	from   model
	nexus  int
	c      resv.Cmd
	want   string // good, conflict, wrong, released
	notes  []resv.Note
	behind model
}

func (x step) run(t *testing.T) {
	t.Helper()
	x.from.count, x.behind.count = -1, -1
	s := load(t, x.from.bytes())
	r, l := s.Do(x.nexus, x.c)
	want := good
	switch x.want {
	case "conflict":
		want = conflict
	case "wrong":
		want = wrong
	case "released":
		want = released
	}
	if !sameReply(r, want) || !slices.Equal(l, x.notes) {
		t.Error(x.name, r, l, "not", x.want, x.notes)
	}
	if b := s.Bytes(); !bytes.Equal(b, x.behind.bytes()) {
		t.Errorf("%s: % x not % x", x.name, b, x.behind.bytes())
	}
}

// P13.2: registering by a nexus with a key, without one, and with another one.
func TestRegister(t *testing.T) {
	free := model{holder: -1, regs: []reg{{4, 9}}}
	with := model{gen: 3, holder: -1, regs: []reg{{4, 9}, {6, 7}}}
	fenced := model{gen: 3, holder: -1, fenced: 1 << 6, regs: []reg{{4, 9}}}
	set := func(m model, key uint64) model {
		m.gen, m.fenced, m.regs = m.gen+1, 0, []reg{{4, 9}, {6, key}}
		return m
	}
	gone := model{gen: 4, holder: -1, fenced: 1 << 6, regs: []reg{{4, 9}}}
	for _, x := range []step{
		{"new", free, 6, resv.Cmd{New: 5, Type: 99}, "good", nil, set(free, 5)},
		{"new, greatest", free, 6, resv.Cmd{New: math.MaxUint64}, "good", nil, set(free, math.MaxUint64)},
		{"new, as another one's", free, 6, resv.Cmd{New: 9}, "good", nil, set(free, 9)},
		{"new, and a key", free, 6, resv.Cmd{Key: 9, New: 5}, "conflict", nil, free},
		{"nothing", free, 6, resv.Cmd{}, "good", nil, free},
		{"nothing, and a key", free, 6, resv.Cmd{Key: 1}, "conflict", nil, free},
		{"again", with, 6, resv.Cmd{Key: 7, New: 8}, "good", nil, set(with, 8)},
		{"again, the same", with, 6, resv.Cmd{Key: 7, New: 7}, "good", nil, set(with, 7)},
		{"again without its key", with, 6, resv.Cmd{New: 8}, "conflict", nil, with},
		{"again with another one's", with, 6, resv.Cmd{Key: 9, New: 8}, "conflict", nil, with},
		{"away", with, 6, resv.Cmd{Key: 7}, "good", nil, gone},
		{"away without its key", with, 6, resv.Cmd{}, "conflict", nil, with},
		{"away with another one's", with, 6, resv.Cmd{Key: 9}, "conflict", nil, with},
		{"fenced", fenced, 6, resv.Cmd{New: 5}, "good", nil, set(fenced, 5)},
		{"fenced, its old key", fenced, 6, resv.Cmd{Key: 7, New: 5}, "conflict", nil, fenced},
		{"fenced, nothing", fenced, 6, resv.Cmd{}, "good", nil, fenced},
	} {
		x.run(t)
		if x.want == "good" { // Ignore does the same, whatever Key is
			for _, key := range []uint64{0, 7, 9, 1 << 63} {
				x.c.Action, x.c.Key = resv.Ignore, key
				x.run(t)
			}
		}
	}
	step{"Ignore without its key", with, 6, resv.Cmd{Action: resv.Ignore, New: 8}, "good", nil, set(with, 8)}.run(t)
	step{"Ignore away", with, 6, resv.Cmd{Action: resv.Ignore}, "good", nil, gone}.run(t)
}

// P13.2: of each type, who is told and what is left when the holder leaves, when another one does, and when the last one does.
func TestLeave(t *testing.T) {
	for _, kind := range types {
		three := model{holder: 4, kind: kind, regs: []reg{{1, 1}, {4, 4}, {9, 1}}}
		one := model{holder: 4, kind: kind, regs: []reg{{4, 4}}}
		left := model{gen: 1, holder: -1, fenced: 1 << 4, regs: []reg{{1, 1}, {9, 1}}}
		var notes []resv.Note
		switch kind {
		case 5, 6:
			notes = []resv.Note{note(1, 4), note(9, 4)}
		case 7, 8:
			left.holder, left.kind = 4, kind
		}
		stays := model{gen: 1, holder: 4, kind: kind, fenced: 1 << 9, regs: []reg{{1, 1}, {4, 4}}}
		nobody := model{gen: 1, holder: -1, fenced: 1 << 4}
		for _, action := range []int{resv.Register, resv.Ignore} {
			step{"holder", three, 4, resv.Cmd{Action: action, Key: 4}, "good", notes, left}.run(t)
			step{"another", three, 9, resv.Cmd{Action: action, Key: 1}, "good", nil, stays}.run(t)
			step{"last", one, 4, resv.Cmd{Action: action, Key: 4}, "good", nil, nobody}.run(t)
		}
	}
	for _, kind := range []int{7, 8} { // the last one is not the one who reserved
		from := model{holder: 4, kind: kind, fenced: 1 << 4, regs: []reg{{9, 1}}}
		step{"last", from, 9, resv.Cmd{Key: 1}, "good", nil, model{gen: 1, holder: -1, fenced: 1<<4 | 1<<9}}.run(t)
	}
}

// P13.2: Reserve, Release, Clear and Preempt of a nexus without a key or with another one, ahead of all else that is wrong.
func TestAsksForTheKey(t *testing.T) {
	from := model{holder: 4, kind: 5, fenced: 1 << 2, regs: []reg{{1, 1}, {4, 4}}}
	for _, action := range []int{resv.Reserve, resv.Release, resv.Clear, resv.Preempt} {
		for _, kind := range []int{0, 1, 5, 9, -1} {
			for _, other := range []uint64{0, 1, 4, 77} {
				for nexus, keys := range map[int][]uint64{1: {0, 4, 2, 1 << 32}, 4: {0, 1, 5, 4 << 32}, 2: {0, 1, 4}, 7: {0, 1, 4}} {
					for _, key := range keys {
						step{"another key", from, nexus, resv.Cmd{Action: action, Key: key, New: other, Type: kind}, "conflict", nil, from}.run(t)
					}
				}
			}
		}
	}
}

// P13.2: each type where there is none, and where there is one.
func TestReserve(t *testing.T) {
	for _, kind := range types {
		from := model{gen: 5, holder: -1, regs: []reg{{1, 1}, {4, 4}}}
		held := model{gen: 5, holder: 4, kind: kind, regs: []reg{{1, 1}, {4, 4}}}
		step{"free", from, 4, resv.Cmd{Action: resv.Reserve, Key: 4, New: 1, Type: kind}, "good", nil, held}.run(t)
		for _, other := range types {
			mine, its := "conflict", "conflict"
			if other == kind {
				mine = "good"
			}
			if other == kind && kind >= 7 {
				its = "good" // each registrant holds it; the one that is told stays
			}
			step{"by its holder", held, 4, resv.Cmd{Action: resv.Reserve, Key: 4, Type: other}, mine, nil, held}.run(t)
			step{"by another", held, 1, resv.Cmd{Action: resv.Reserve, Key: 1, Type: other}, its, nil, held}.run(t)
		}
		for _, no := range []int{math.MinInt, -1, 0, 2, 4, 9, 15, 255, 256 + kind, math.MaxInt} {
			for _, m := range []model{from, held} {
				step{"no type", m, 4, resv.Cmd{Action: resv.Reserve, Key: 4, Type: no}, "wrong", nil, m}.run(t)
				step{"no type", m, 1, resv.Cmd{Action: resv.Reserve, Key: 1, Type: no}, "wrong", nil, m}.run(t)
			}
		}
	}
}

// P13.2: each type released by whoever holds it, by another one, with another type, and where there is none.
func TestRelease(t *testing.T) {
	free := model{gen: 5, holder: -1, regs: []reg{{1, 1}, {4, 4}, {9, 9}}}
	for _, kind := range types {
		held := model{gen: 5, holder: 4, kind: kind, regs: free.regs}
		var mine, its []resv.Note
		if kind > 3 {
			mine, its = []resv.Note{note(1, 4), note(9, 4)}, []resv.Note{note(4, 4), note(9, 4)}
		}
		for _, other := range append([]int{math.MinInt, -1, 0, 2, 4, 9, kind + 256, math.MaxInt}, types...) {
			c := resv.Cmd{Action: resv.Release, Key: 4, New: 9, Type: other}
			step{"none there", free, 4, c, "good", nil, free}.run(t)
			if other == kind {
				step{"by its holder", held, 4, c, "good", mine, free}.run(t)
			} else {
				step{"of another type", held, 4, c, "released", nil, held}.run(t)
			}
			c.Key = 1
			switch {
			case kind < 7:
				step{"by another", held, 1, c, "good", nil, held}.run(t)
			case other == kind:
				step{"by another registrant", held, 1, c, "good", its, free}.run(t)
			default:
				step{"by another registrant, of another type", held, 1, c, "released", nil, held}.run(t)
			}
		}
	}
}

// P13.2: Clear takes all keys away, also its own, and the reservation of whoever holds it.
func TestClear(t *testing.T) {
	behind := model{gen: 6, holder: -1, fenced: 1<<0 | 1<<3 | 1<<7 | 1<<15}
	for _, kind := range append([]int{0}, types...) {
		for _, holder := range []int{0, 7} {
			from := model{gen: 5, holder: holder, kind: kind, fenced: 1 << 3, regs: []reg{{0, 1}, {7, 1}, {15, 2}}}
			if kind == 0 {
				from.holder = -1
			}
			step{"Clear", from, 7, resv.Cmd{Action: resv.Clear, Key: 1, New: 2, Type: 77}, "good", []resv.Note{note(0, 3), note(15, 3)}, behind}.run(t)
		}
	}
	alone := model{holder: 7, kind: 8, regs: []reg{{7, 1}}}
	step{"alone", alone, 7, resv.Cmd{Action: resv.Clear, Key: 1}, "good", nil, model{gen: 1, holder: -1, fenced: 1 << 7}}.run(t)
}

// P13.2: a number that goes round.
func TestGenGoesRound(t *testing.T) {
	for name, c := range map[string]resv.Cmd{
		"Register": {Action: resv.Register, Key: 4, New: 5}, "Ignore": {Action: resv.Ignore, New: 5}, "leave": {Action: resv.Register, Key: 4},
		"Clear": {Action: resv.Clear, Key: 4}, "Preempt": {Action: resv.Preempt, Key: 4, New: 9, Type: 1}, "take over": {Action: resv.Preempt, Key: 4, New: 4, Type: 1},
	} {
		m := model{gen: math.MaxUint32, holder: 4, kind: 3, count: -1, regs: []reg{{1, 9}, {4, 4}}}
		s := load(t, m.bytes())
		if s.Gen() != math.MaxUint32 {
			t.Error(name, s.Gen())
		}
		if s.Do(4, c); s.Gen() != 0 {
			t.Error(name, s.Gen())
		}
		if s.Do(8, resv.Cmd{New: 1}); s.Gen() != 1 {
			t.Error(name, s.Gen())
		}
	}
}

// P13.2: what changes no keys does not change Gen, and each of the others makes it one more.
func TestGen(t *testing.T) {
	s := resv.New()
	for i, x := range []struct {
		c   resv.Cmd
		gen int64
	}{
		{resv.Cmd{New: 0}, 0}, {resv.Cmd{New: 3}, 1}, {resv.Cmd{Key: 3, New: 3}, 2}, {resv.Cmd{Key: 4, New: 3}, 2},
		{resv.Cmd{Action: resv.Reserve, Key: 3, Type: 6}, 2}, {resv.Cmd{Action: resv.Release, Key: 3, Type: 6}, 2}, {resv.Cmd{Action: resv.Release, Key: 3, Type: 6}, 2},
		{resv.Cmd{Action: resv.Preempt, Key: 3, New: 3, Type: 6}, 3}, {resv.Cmd{Action: resv.Preempt, Key: 3, New: 4, Type: 6}, 3}, {resv.Cmd{Action: resv.Preempt, Key: 3, New: 3, Type: 0}, 3},
		{resv.Cmd{Action: resv.Ignore, New: 8}, 4}, {resv.Cmd{Action: resv.Clear, Key: 8}, 5}, {resv.Cmd{Action: resv.Clear, Key: 8}, 5},
	} {
		if s.Do(3, x.c); s.Gen() != x.gen {
			t.Error(i, s.Gen(), "not", x.gen)
		}
	}
}

// commands is commands of three nexuses with each action, their own key and others, of each type and of none.
func commands() []resv.Cmd {
	var l []resv.Cmd
	for _, action := range []int{0, 1, 2, 3, 4, 5, 6} {
		for _, key := range []uint64{0, 1, 2} {
			for _, other := range []uint64{0, 1, 2} {
				for _, kind := range append([]int{0}, types...) {
					l = append(l, resv.Cmd{Action: action, Key: key, New: other, Type: kind})
				}
			}
		}
	}
	return l
}

// states is all states of three nexuses with few keys, of each type and holder that can be.
func states() []*model {
	at := []int{0, 6, 15}
	var l []*model
	for n := range 4 * 4 * 4 {
		m := empty()
		for _, nexus := range at {
			switch n % 4 {
			case 1, 2:
				m.regs = append(m.regs, reg{nexus, uint64(n % 4)})
			case 3:
				m.fenced |= 1 << nexus
			}
			n /= 4
		}
		l = append(l, m)
		for _, kind := range types {
			for _, holder := range at {
				x := m.copied()
				x.holder, x.kind = holder, kind
				if m.key(holder) != 0 || kind >= 7 && len(m.regs) > 0 {
					l = append(l, x)
				}
			}
		}
	}
	return l
}

// P13.2, P13.6: each command in each state of three nexuses, against the model.
func TestEachCommandInEachState(t *testing.T) {
	all := commands()
	told := map[int]int{}
	for _, m := range states() {
		from := load(t, m.bytes())
		for _, nexus := range []int{0, 6, 15} {
			for _, c := range all {
				s, x := from.Copy(), m.copied()
				r, l := s.Do(nexus, c)
				want, notes := x.do(nexus, c)
				if !sameReply(r, want) || !slices.Equal(l, notes) || !bytes.Equal(s.Bytes(), x.bytes()) {
					t.Fatalf("%+v: nexus %d %+v: %v %v, not %v %v; % x", *m, nexus, c, r, l, want, notes, s.Bytes())
				}
				told[r.Status]++
				told[1000+len(l)]++
				follows(t, s)
			}
		}
	}
	for _, what := range []int{0, 2, 24, 1000, 1001, 1002} {
		if told[what] < 1000 {
			t.Error("too few", what, told[what])
		}
	}
}

// randomCmd is mostly with the key that a nexus has.
func randomCmd(rnd *rand.Rand, m *model) (int, resv.Cmd) {
	nexus := rnd.Intn(16)
	if rnd.Intn(3) > 0 && len(m.regs) > 0 {
		nexus = m.regs[rnd.Intn(len(m.regs))].nexus
	}
	c := resv.Cmd{Action: []int{0, 0, 0, 1, 1, 2, 2, 3, 4, 4, 4, 5, 6, 6}[rnd.Intn(14)], Key: m.key(nexus), New: uint64(rnd.Intn(5)), Type: types[rnd.Intn(6)]}
	if c.Action == resv.Clear && rnd.Intn(5) > 0 {
		c.Action = resv.Reserve
	}
	if rnd.Intn(10) == 0 {
		c.Key = uint64(rnd.Intn(5))
	}
	if rnd.Intn(20) == 0 {
		c.Type = rnd.Intn(12) - 1
	}
	if rnd.Intn(50) == 0 {
		nexus = rnd.Intn(40) - 10
	}
	if m.kind != 0 && rnd.Intn(2) == 0 {
		c.Type = m.kind
	}
	return nexus, c
}

// P13.2, P13.3, P13.5 to P13.8: long runs of all nexuses against the model, with states that are copied or loaded and go on.
func TestAgainstTheModel(t *testing.T) {
	done := map[[2]int]int{}
	for seed := range int64(60) {
		rnd := rand.New(rand.NewSource(seed))
		m := empty()
		m.gen = math.MaxUint32 - 40
		s := load(t, m.bytes())
		for range 300 {
			nexus, c := randomCmd(rnd, m)
			switch rnd.Intn(8) {
			case 0:
				s = s.Copy()
			case 1:
				s = load(t, s.Bytes())
			}
			r, l := s.Do(nexus, c)
			want, notes := m.do(nexus, c)
			is(t, r, l, want, notes...)
			done[[2]int{c.Action, r.Status}]++
			agree(t, s, m)
			follows(t, s)
			if t.Failed() {
				t.Fatalf("seed %d: nexus %d %+v", seed, nexus, c)
			}
		}
	}
	for _, action := range []int{0, 1, 2, 3, 4, 6} {
		if done[[2]int{action, 0}] < 50 || action != 6 && done[[2]int{action, 24}] < 20 {
			t.Error("too few of", action, done)
		}
	}
}
