package target

import (
	"iter"
	"slices"

	"caisson/api"
	"caisson/past"
)

const (
	leastBound = 100
	perMachine = 20
)

// Do sends a command of a connection, round by round, each time to the next machine that works, until one of these calls was told an answer that is not idle: that.
func (t *Target) Do(nexus int, a past.Ask) (api.Reply, bool) {
	if t.isNone() {
		return api.Reply{}, false
	}
	first := len(t.calls) // nobody else sends anything meanwhile
	for at := range t.turns() {
		if at != nobody && t.Send(nexus, at, a) == nobody {
			return api.Reply{}, false
		}
		t.round()
		if r, ok := t.answer(first); ok {
			return r, true
		}
	}
	return api.Reply{}, false
}

// turns goes through the machines that work, the lowest number first, and round, one for each round that there may be; it is nobody, where none works.
func (t *Target) turns() iter.Seq[int] {
	return func(yield func(int) bool) {
		last := nobody
		for range t.Bound() {
			at := t.upBehind(last)
			if !yield(at) {
				return
			}
			if at != nobody {
				last = at
			}
		}
	}
}

// upBehind is the next machine behind the last one that works.
func (t *Target) upBehind(last int) int {
	n := t.cluster.Nodes()
	for i := range n {
		if at := (last + 1 + i) % n; t.cluster.Up(at) {
			return at
		}
	}
	return nobody
}

// answer is one that is not idle that the calls from first on were told.
func (t *Target) answer(first int) (api.Reply, bool) {
	for _, c := range t.calls[first:] {
		if c.Told && !past.Idle(c.R) {
			c.R.Data = slices.Clone(c.R.Data)
			return c.R, true
		}
	}
	return api.Reply{}, false
}

// Step does a step of the cluster: how many calls were told an answer. Bytes come of the target's own initiators alone.
func (t *Target) Step(e api.Event) int {
	if t.isNone() || e.Kind == api.EvBytes {
		return 0
	}
	return t.hear(t.cluster.Do(e))
}

func (t *Target) round() { t.Step(api.Event{Kind: api.EvRound}) }

// Quiet lets rounds go by until all is calm, or there were too many: how many, and whether it is.
func (t *Target) Quiet() (int, bool) {
	if t.isNone() {
		return 0, false
	}
	n := 0
	for ; n < t.Bound() && !t.cluster.Calm(); n++ {
		t.round()
	}
	return n, t.cluster.Calm()
}

// Bound is how many rounds are enough. What was on its way has come behind a few of them, and somebody asks for votes behind at most nineteen; where one machine can not be voted for, the next one asks.
func (t *Target) Bound() int {
	if t.isNone() {
		return 0
	}
	return leastBound + perMachine*t.conf.Nodes
}
