package past

import (
	"iter"
	"math"
	"slices"
	"sync"
	"sync/atomic"
)

// isOrder tells whether the numbers are an order of the calls l.
func isOrder(l []Call, order []int) bool {
	left := make([]bool, len(l)) // those that count, and were not met yet
	for _, i := range counting(l) {
		left[i] = true
	}
	latest := math.MinInt // of the calls that were met, the last time at which one began
	for _, i := range order {
		if i < 0 || i >= len(l) || !left[i] {
			return false
		}
		if l[i].Told && l[i].End < latest { // it is ahead of that one
			return false
		}
		left[i] = false
		latest = max(latest, l[i].Begin)
	}
	for i, is := range left {
		if is && l[i].Told {
			return false
		}
	}
	return true
}

// look is one search for orders that explain calls.
type look struct {
	calls   []Call
	done    atomic.Int64 // how many commands were done in it
	closing sync.Once
	closed  bool // nothing more is looked at
}

func (k *look) close() {
	k.closing.Do(func() { k.closed = true })
}

// orders goes through the orders of these calls that explain them, and that end with one that was told: what was not told need not have been done.
func (k *look) orders(w *World, left []int) iter.Seq[[]int] {
	return func(yield func([]int) bool) { k.goOn(w, nil, left, yield) }
}

// goOn goes through those that begin with the calls of order, which have made w. Those that are left come behind.
func (k *look) goOn(w *World, order, left []int, yield func([]int) bool) {
	end, some := k.firstEnd(left)
	if !some {
		if !yield(slices.Clone(order)) {
			k.close()
		}
		return
	}
	for at, i := range left {
		if k.closed {
			return
		}
		if k.calls[i].Begin > end { // one that must come behind is ahead of it
			continue
		}
		next := w.Copy()
		k.done.Add(1)
		if next.answers(k.calls[i]) {
			k.goOn(next, append(order, i), slices.Delete(slices.Clone(left), at, at+1), yield)
		}
	}
}

// firstEnd is the first time at which one of these calls was told; false, if none was.
func (k *look) firstEnd(l []int) (int, bool) {
	first, some := math.MaxInt, false
	for _, i := range l {
		if c := k.calls[i]; c.Told {
			first, some = min(first, c.End), true
		}
	}
	return first, some
}
