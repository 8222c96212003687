package world_test

import (
	"math"
	"slices"
	"sync"
	"sync/atomic"
	"testing"

	"caisson/api"
	"caisson/world"
)

func ok(t *testing.T, e api.Errno) {
	t.Helper()
	if e != api.OK {
		t.Fatal("an error:", e)
	}
}

func newWorld(t *testing.T, n, rho int) *world.World {
	t.Helper()
	w, e := world.New(n, rho)
	if e != api.OK || w == nil {
		t.Fatalf("New(%d, %d): %v", n, rho, e)
	}
	return w
}

// send sends a letter of each text, from the machine 0 to the machine 1.
func send(t *testing.T, w *world.World, texts ...string) {
	t.Helper()
	for _, s := range texts {
		ok(t, w.Send(0, 1, []byte(s)))
	}
}

// texts is what is on its way.
func texts(t *testing.T, w *world.World) []string {
	t.Helper()
	var l []string
	for k := range w.Len() {
		x, e := w.Look(k)
		ok(t, e)
		l = append(l, string(x.Data))
	}
	return l
}

// shows holds what is on its way, and how many came and were lost, against what they should be.
func shows(t *testing.T, w *world.World, taken, lost int64, want ...string) {
	t.Helper()
	if l := texts(t, w); !slices.Equal(l, want) || w.Taken() != taken || w.Lost() != lost {
		t.Fatalf("%q, %d taken, %d lost; not %q, %d, %d", l, w.Taken(), w.Lost(), want, taken, lost)
	}
}

func isLetter(x world.Letter, from, to int, data string) bool {
	return x.From == from && x.To == to && string(x.Data) == data
}

func isNoLetter(x world.Letter) bool { return x.From == 0 && x.To == 0 && len(x.Data) == 0 }

// P8.1: New, at its edges and beyond them.
func TestNew(t *testing.T) {
	for _, n := range []int{1, 2, 3, 4, 5} {
		for _, rho := range []int{1, 2, 999, 1000} {
			w := newWorld(t, n, rho)
			shows(t, w, 0, 0)
			for i := -1; i <= n; i++ {
				if isMachine := i >= 0 && i < n; w.May(i) != isMachine || w.Clock(i) != 0 {
					t.Error("the clock", i, "of", n)
				}
				for j := -1; j <= n; j++ {
					if w.Apart(i, j) {
						t.Error("apart", i, j)
					}
				}
			}
		}
	}
	for _, c := range [][2]int{{0, 1}, {-1, 1}, {6, 1}, {math.MaxInt, 1}, {math.MinInt, 1}, {1, 0}, {1, -1}, {1, 1001}, {5, math.MaxInt}, {5, math.MinInt}, {0, 0}} {
		if w, e := world.New(c[0], c[1]); w != nil || e != api.ErrArg {
			t.Error("New", c, e)
		}
	}
}

// P8.1, P1: of nil.
func TestNil(t *testing.T) {
	var w *world.World
	for _, i := range []int{0, 1, -1, math.MaxInt, math.MinInt} {
		x, e := w.Look(i)
		if !isNoLetter(x) || e != api.ErrNil {
			t.Error("Look", e)
		}
		x, e = w.Take(i)
		if !isNoLetter(x) || e != api.ErrNil {
			t.Error("Take", e)
		}
		if w.Send(i, i, nil) != api.ErrNil || w.Drop(i) != api.ErrNil || w.Double(i) != api.ErrNil || w.Cut(i) != api.ErrNil || w.Tick(i) != api.ErrNil {
			t.Error("an error of nil", i)
		}
		if w.Apart(i, 0) || w.Apart(0, i) || w.May(i) || w.Clock(i) != 0 {
			t.Error("an answer of nil", i)
		}
	}
	if w.Len() != 0 || w.Taken() != 0 || w.Lost() != 0 || w.Close() || w.Close() {
		t.Error("an answer of nil")
	}
}

// P8.3: who is apart, of all cuts of all worlds.
func TestCut(t *testing.T) {
	for n := 1; n <= 5; n++ {
		w := newWorld(t, n, 1)
		for mask := range 1 << n {
			ok(t, w.Cut(mask))
			for _, wrong := range []int{-1, 1 << n, 1<<n | mask, 1 << 5, math.MaxInt, math.MinInt} {
				if e := w.Cut(wrong); e != api.ErrArg {
					t.Error("Cut", wrong, "of", n, e)
				}
			}
			for a := range n {
				for b := range n {
					if want := mask>>a&1 != mask>>b&1; w.Apart(a, b) != want {
						t.Error("Cut", mask, "Apart", a, b)
					}
				}
				for _, no := range []int{-1, n, 5, 63, 64, math.MaxInt, math.MinInt} {
					if w.Apart(a, no) || w.Apart(no, a) || w.Apart(no, no) {
						t.Error("Cut", mask, "Apart of no machine", a, no)
					}
				}
			}
		}
		ok(t, w.Cut(0))
	}
}

// P8.2, P8.4: once it is closed no letter is sent, and all else goes on.
func TestClose(t *testing.T) {
	w := newWorld(t, 2, 1)
	send(t, w, "a", "b", "c")
	if !w.Close() || w.Close() || w.Close() {
		t.Error("Close")
	}
	for _, c := range [][2]int{{0, 1}, {-1, 0}, {0, 2}} { // ahead of any other error
		if e := w.Send(c[0], c[1], make([]byte, api.MaxBytes+1)); e != api.ErrState {
			t.Error("Send", c, e)
		}
	}
	shows(t, w, 0, 0, "a", "b", "c")
	ok(t, w.Double(0))
	ok(t, w.Drop(1))
	if x, e := w.Take(0); e != api.OK || !isLetter(x, 0, 1, "a") {
		t.Error("Take", x, e)
	}
	shows(t, w, 1, 1, "c", "a")
	ok(t, w.Cut(1))
	ok(t, w.Tick(0))
	if _, e := w.Take(0); e != api.ErrState || !w.Apart(0, 1) || w.Clock(0) != 1 || w.Close() {
		t.Error("Take", e)
	}
	shows(t, w, 1, 2, "a")
}

// P8.4: others may ask how many came and were lost, at any time.
func TestCountsByOthers(t *testing.T) {
	w := newWorld(t, 2, 1)
	var others sync.WaitGroup
	var done atomic.Bool
	for range 4 {
		others.Go(func() {
			for taken, lost := int64(0), int64(0); !done.Load(); {
				a, b := w.Taken(), w.Lost()
				if a < taken || b < lost || a > 500 || b > 1000 {
					t.Error("behind", taken, lost, "it is", a, b)
					return
				}
				taken, lost = a, b
			}
		})
	}
	for i := range 500 {
		for range 3 {
			ok(t, w.Send(0, 1, nil))
		}
		w.Take(0)
		w.Drop(0)
		w.Cut(1)
		w.Take(0)
		w.Cut(0)
		if w.Taken() != int64(i+1) || w.Lost() != int64(2*i+2) {
			t.Error("it is", w.Taken(), w.Lost())
		}
	}
	done.Store(true)
	others.Wait()
}
