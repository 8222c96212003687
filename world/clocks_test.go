package world_test

import (
	"math"
	"testing"

	"caisson/api"
)

// P8.4: the chapter's example of clocks.
func TestExampleOfClocks(t *testing.T) {
	w := newWorld(t, 2, 3)
	for range 3 {
		ok(t, w.Tick(0))
	}
	if e := w.Tick(0); e != api.ErrState || w.Clock(0) != 3 || w.Clock(1) != 0 {
		t.Error("Tick", e, w.Clock(0), w.Clock(1))
	}
}

// P8.4: a clock may be just rho above each other one's, and each of them counts.
func TestBound(t *testing.T) {
	for _, rho := range []int{1, 2, 7, 1000} {
		w := newWorld(t, 3, rho)
		for range rho {
			ok(t, w.Tick(0))
			ok(t, w.Tick(1))
		}
		for _, i := range []int{0, 1} { // the machine 2 is what holds them
			if w.May(i) || w.Tick(i) != api.ErrState || w.Clock(i) != int64(rho) {
				t.Error("the machine", i, "is too far")
			}
		}
		ok(t, w.Tick(2))
		ok(t, w.Tick(1))
		if !w.May(0) || w.May(1) || !w.May(2) {
			t.Error("May", rho, w.May(0), w.May(1), w.May(2))
		}
		for range 2*rho - 1 { // the machine 0, at rho, is the one that is behind now
			ok(t, w.Tick(2))
		}
		if e := w.Tick(2); e != api.ErrState || w.May(2) || w.Clock(2) != int64(2*rho) {
			t.Error("the machine 2 is too far", rho, w.Clock(2))
		}
	}
}

// P8.4: one alone may always tick.
func TestAlone(t *testing.T) {
	w := newWorld(t, 1, 1)
	for n := range int64(5000) {
		if !w.May(0) || w.Clock(0) != n {
			t.Fatal("May", n, w.Clock(0))
		}
		ok(t, w.Tick(0))
	}
}

// P8.4, P1: of no machine.
func TestNoMachine(t *testing.T) {
	for n := 1; n <= 5; n++ {
		w := newWorld(t, n, 2)
		for i := range n {
			ok(t, w.Tick(i))
		}
		for _, i := range []int{-1, n, 5, 64, math.MaxInt, math.MinInt} {
			if w.May(i) || w.Tick(i) != api.ErrArg || w.Clock(i) != 0 {
				t.Error("the machine", i, "of", n)
			}
		}
		for i := range n {
			if w.Clock(i) != 1 {
				t.Error("the clock", i, "has changed")
			}
		}
	}
}
