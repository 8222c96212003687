package resv_test

import (
	"math"
	"testing"

	"caisson/resv"
)

func preempt(key, other uint64, kind int) resv.Cmd {
	return resv.Cmd{Action: resv.Preempt, Key: key, New: other, Type: kind}
}

// P13.2: a type that there is not, ahead of all else but the key.
func TestPreemptOfNoType(t *testing.T) {
	for _, kind := range append([]int{0}, types...) {
		from := model{holder: 4, kind: kind, regs: []reg{{1, 1}, {4, 4}}}
		if kind == 0 {
			from.holder = -1
		}
		for _, no := range []int{math.MinInt, -1, 0, 2, 4, 9, 256 + 5, math.MaxInt} {
			for _, other := range []uint64{0, 1, 4, 99} {
				step{"no type", from, 1, preempt(1, other, no), "wrong", nil, from}.run(t)
			}
		}
	}
}

// P13.2: where there is no reservation keys are taken away, and there is none behind it.
func TestPreemptWithoutReservation(t *testing.T) {
	from := model{gen: 2, holder: -1, fenced: 1 << 3, regs: []reg{{1, 1}, {4, 4}, {6, 4}, {9, 9}}}
	for _, kind := range types {
		step{"two", from, 9, preempt(9, 4, kind), "good", []resv.Note{note(4, 5), note(6, 5)},
			model{gen: 3, holder: -1, fenced: 1<<3 | 1<<4 | 1<<6, regs: []reg{{1, 1}, {9, 9}}}}.run(t)
		step{"those with its own", from, 4, preempt(4, 4, kind), "good", []resv.Note{note(6, 5)},
			model{gen: 3, holder: -1, fenced: 1<<3 | 1<<6, regs: []reg{{1, 1}, {4, 4}, {9, 9}}}}.run(t)
		step{"its own alone", from, 1, preempt(1, 1, kind), "good", nil,
			model{gen: 3, holder: -1, fenced: 1 << 3, regs: from.regs}}.run(t)
		step{"nobody's", from, 1, preempt(1, 5, kind), "conflict", nil, from}.run(t)
		step{"0", from, 1, preempt(1, 0, kind), "wrong", nil, from}.run(t)
	}
}

// P13.2: the holder of a type below 7, preempted by another one, of the same type and of others.
func TestPreemptOfTheHolder(t *testing.T) {
	for _, kind := range types[:4] {
		from := model{gen: 2, holder: 4, kind: kind, regs: []reg{{1, 1}, {4, 4}, {6, 4}, {9, 9}}}
		for _, to := range types {
			step{"by another", from, 9, preempt(9, 4, to), "good", []resv.Note{note(1, 4), note(4, 5), note(6, 5)},
				model{gen: 3, holder: 9, kind: to, fenced: 1<<4 | 1<<6, regs: []reg{{1, 1}, {9, 9}}}}.run(t)
			step{"by another with the same key", from, 6, preempt(4, 4, to), "good", []resv.Note{note(1, 4), note(4, 5), note(9, 4)},
				model{gen: 3, holder: 6, kind: to, fenced: 1 << 4, regs: []reg{{1, 1}, {6, 4}, {9, 9}}}}.run(t)
		}
		step{"0", from, 9, preempt(9, 0, kind), "wrong", nil, from}.run(t)
		step{"nobody's", from, 9, preempt(9, 5, kind), "conflict", nil, from}.run(t)
	}
}

// P13.2: the holder preempts its own key: those who have it too lose it, and others are told only if the type is another one.
func TestPreemptByTheHolder(t *testing.T) {
	for _, kind := range types[:4] {
		from := model{gen: 2, holder: 4, kind: kind, regs: []reg{{1, 1}, {4, 4}, {6, 4}, {9, 9}}}
		for _, to := range types {
			notes := []resv.Note{note(1, 4), note(6, 5), note(9, 4)}
			if to == kind {
				notes = notes[1:2]
			}
			step{"its own", from, 4, preempt(4, 4, to), "good", notes,
				model{gen: 3, holder: 4, kind: to, fenced: 1 << 6, regs: []reg{{1, 1}, {4, 4}, {9, 9}}}}.run(t)
			// Another one's key: the reservation stays as it is, and nobody else is told.
			step{"another's", from, 4, preempt(4, 9, to), "good", []resv.Note{note(9, 5)},
				model{gen: 3, holder: 4, kind: kind, fenced: 1 << 9, regs: []reg{{1, 1}, {4, 4}, {6, 4}}}}.run(t)
		}
	}
}

// P13.2: whoever does not hold it preempts a key that is not the holder's: the reservation stays.
func TestPreemptBesideTheHolder(t *testing.T) {
	for _, kind := range types[:4] {
		from := model{gen: 2, holder: 4, kind: kind, regs: []reg{{1, 1}, {4, 4}, {6, 1}, {9, 9}}}
		step{"another's", from, 9, preempt(9, 1, 8), "good", []resv.Note{note(1, 5), note(6, 5)},
			model{gen: 3, holder: 4, kind: kind, fenced: 1<<1 | 1<<6, regs: []reg{{4, 4}, {9, 9}}}}.run(t)
		step{"its own", from, 6, preempt(1, 1, 8), "good", []resv.Note{note(1, 5)},
			model{gen: 3, holder: 4, kind: kind, fenced: 1 << 1, regs: []reg{{4, 4}, {6, 1}, {9, 9}}}}.run(t)
		step{"its own alone", from, 9, preempt(9, 9, 8), "good", nil,
			model{gen: 3, holder: 4, kind: kind, regs: from.regs}}.run(t)
	}
}

// P13.2: of the types 7 and 8 only 0 takes it over, and then all others lose their keys; a key takes just itself away.
func TestPreemptOfEach(t *testing.T) {
	for _, kind := range types[4:] {
		from := model{gen: 2, holder: 4, kind: kind, regs: []reg{{1, 1}, {4, 4}, {6, 4}, {9, 9}}}
		for _, to := range types {
			step{"0", from, 9, preempt(9, 0, to), "good", []resv.Note{note(1, 5), note(4, 5), note(6, 5)},
				model{gen: 3, holder: 9, kind: to, fenced: 1<<1 | 1<<4 | 1<<6, regs: []reg{{9, 9}}}}.run(t)
			step{"0 by the one who reserved", from, 4, preempt(4, 0, to), "good", []resv.Note{note(1, 5), note(6, 5), note(9, 5)},
				model{gen: 3, holder: 4, kind: to, fenced: 1<<1 | 1<<6 | 1<<9, regs: []reg{{4, 4}}}}.run(t)
			step{"the key of the one who reserved", from, 9, preempt(9, 4, to), "good", []resv.Note{note(4, 5), note(6, 5)},
				model{gen: 3, holder: 4, kind: kind, fenced: 1<<4 | 1<<6, regs: []reg{{1, 1}, {9, 9}}}}.run(t)
			step{"nobody's", from, 9, preempt(9, 5, to), "conflict", nil, from}.run(t)
			step{"its own", from, 6, preempt(4, 4, to), "good", []resv.Note{note(4, 5)},
				model{gen: 3, holder: 4, kind: kind, fenced: 1 << 4, regs: []reg{{1, 1}, {6, 4}, {9, 9}}}}.run(t)
		}
		alone := model{holder: 4, kind: kind, fenced: 1 << 4, regs: []reg{{9, 9}}}
		step{"0, alone", alone, 9, preempt(9, 0, 3), "good", nil, model{gen: 1, holder: 9, kind: 3, fenced: 1 << 4, regs: alone.regs}}.run(t)
		step{"its own, alone", alone, 9, preempt(9, 9, 3), "good", nil, model{gen: 1, holder: 4, kind: kind, fenced: 1 << 4, regs: alone.regs}}.run(t)
	}
}
