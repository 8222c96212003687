package world

import (
	"slices"

	"caisson/api"
)

// Tick lets the clock of the machine i go on by one, if it may.
func (w *World) Tick(i int) api.Errno {
	if w == nil {
		return api.ErrNil
	}
	if !w.has(i) {
		return api.ErrArg
	}
	if !w.May(i) {
		return api.ErrState
	}
	w.clocks[i]++
	return api.OK
}

// May tells whether the clock of the machine i can tick and be within the bound. Its own clock is among those that it is held against, but is never in its way: one tick is within any bound.
func (w *World) May(i int) bool {
	if !w.has(i) || w.clocks[i] >= api.MaxTicks {
		return false
	}
	return w.clocks[i]+1-slices.Min(w.clocks) <= w.rho
}

// Clock is that of the machine i.
func (w *World) Clock(i int) int64 {
	if !w.has(i) {
		return 0
	}
	return w.clocks[i]
}
