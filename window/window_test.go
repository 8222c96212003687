package window_test

import (
	"math"
	"math/rand"
	"slices"
	"testing"

	"caisson/api"
	"caisson/window"
)

// firsts are numbers to begin with: those that go round soon, too.
func firsts() []uint32 {
	return []uint32{0, 1, 7, 1<<31 - 2, 1<<31 - 1, 1 << 31, math.MaxUint32 - 64, math.MaxUint32 - 2, math.MaxUint32}
}

func open(t *testing.T, first uint32, size int) *window.Window {
	t.Helper()
	w, e := window.New(first, size)
	if e != api.OK || w == nil {
		t.Fatalf("New(%d, %d): %v", first, size, e)
	}
	return w
}

func come(t *testing.T, w *window.Window, n uint32, now bool, id int64, want api.Errno) {
	t.Helper()
	if e := w.Come(n, now, id); e != want {
		t.Fatalf("Come(%d, %v, %d): %v, not %v", n, now, id, e, want)
	}
}

func done(t *testing.T, w *window.Window, want api.Errno) {
	t.Helper()
	if e := w.Done(); e != want {
		t.Fatalf("Done: %v, not %v", e, want)
	}
}

// tells asks for all that waits to be told.
func tells(t *testing.T, w *window.Window, want ...int64) {
	t.Helper()
	var got []int64
	for {
		id, ok := w.Next()
		if !ok {
			if id != 0 {
				t.Fatalf("Next of none: %d", id)
			}
			break
		}
		got = append(got, id)
	}
	if !slices.Equal(got, want) {
		t.Fatalf("told %v, not %v", got, want)
	}
}

func shows(t *testing.T, w *window.Window, expected, highest uint32, held, busy int) {
	t.Helper()
	if w.Expected() != expected || w.Highest() != highest || w.Held() != held || w.Busy() != busy {
		t.Fatalf("%d to %d, held %d, busy %d; not %d to %d, %d, %d", w.Expected(), w.Highest(), w.Held(), w.Busy(), expected, highest, held, busy)
	}
}

// P19.1: each size at its bounds.
func TestNew(t *testing.T) {
	for _, first := range firsts() {
		for _, size := range []int{math.MinInt, -1 << 32, -64, -1, 0, 65, 66, 128, 1 << 32, 1<<32 + 1, math.MaxInt} {
			if w, e := window.New(first, size); w != nil || e != api.ErrArg {
				t.Errorf("New(%d, %d): %v %v", first, size, w, e)
			}
		}
		for size := 1; size <= 64; size++ {
			w := open(t, first, size)
			shows(t, w, first, first+uint32(size)-1, 0, 0)
			tells(t, w)
			done(t, w, api.ErrState)
		}
	}
}

// P19.1: nil.
func TestNil(t *testing.T) {
	var w *window.Window
	for range 2 {
		come(t, w, 0, false, 1, api.ErrNil)
		come(t, w, 0, true, 1, api.ErrNil)
		done(t, w, api.ErrNil)
		tells(t, w)
		shows(t, w, 0, 0, 0, 0)
	}
}

// P19.2, P19.3: the document's example.
func TestExample(t *testing.T) {
	w := open(t, 4294967295, 2)
	come(t, w, 0, false, 5, api.OK)
	shows(t, w, 4294967295, 0, 1, 0)
	come(t, w, 1, false, 6, api.ErrState)
	come(t, w, 4294967295, false, 4, api.OK)
	tells(t, w, 4, 5)
	shows(t, w, 1, 0, 0, 2)
	done(t, w, api.OK)
	shows(t, w, 1, 1, 0, 1)
}

// orders calls f with each order of the numbers below n.
func orders(n int, f func([]int)) {
	var walk func(l, rest []int)
	walk = func(l, rest []int) {
		if len(rest) == 0 {
			f(l)
		}
		for i, x := range rest {
			walk(append(slices.Clone(l), x), slices.Delete(slices.Clone(rest), i, i+1))
		}
	}
	var all []int
	for i := range n {
		all = append(all, i)
	}
	walk(nil, all)
}

// P19.2, P19.4: five commands in every order, each of them twice: told in the order of their numbers, as soon as all ahead came.
func TestEveryOrder(t *testing.T) {
	for _, first := range []uint32{0, 40, math.MaxUint32 - 3, math.MaxUint32} {
		for _, size := range []int{5, 6, 64} {
			orders(5, func(l []int) {
				w := open(t, first, size)
				came := map[int]bool{}
				next := 0
				for _, i := range l {
					n := first + uint32(i)
					come(t, w, n, false, int64(100+i), api.OK)
					came[i] = true
					var want []int64
					for ; came[next]; next++ {
						want = append(want, int64(100+next))
					}
					shows(t, w, first+uint32(next), first+uint32(size)-1, len(came)-next, next)
					come(t, w, n, false, 7, api.ErrState) // twice: held, or done already
					tells(t, w, want...)
					come(t, w, n, false, 7, api.ErrState)
				}
				shows(t, w, first+5, first+uint32(size)-1, 0, 5)
			})
		}
	}
}

// P19.2, P19.5: windows of every size that become full, by what is held and by what is being done.
func TestFull(t *testing.T) {
	for _, first := range firsts() {
		for size := 1; size <= 64; size++ {
			w := open(t, first, size)
			top := first + uint32(size) - 1
			come(t, w, first-1, false, 1, api.ErrState)
			come(t, w, top+1, false, 1, api.ErrState)
			come(t, w, first+1<<31, false, 1, api.ErrState)
			var want []int64
			for i := size - 1; i > 0; i-- {
				come(t, w, first+uint32(i), false, int64(i), api.OK)
			}
			shows(t, w, first, top, size-1, 0)
			tells(t, w)
			come(t, w, first, false, 0, api.OK)
			for i := range size {
				want = append(want, int64(i))
			}
			shows(t, w, top+1, top, 0, size)
			for _, n := range []uint32{first, top, top + 1, top + 2, top + 1<<31, 0} {
				come(t, w, n, false, 1, api.ErrState) // none is taken
			}
			tells(t, w, want...)
			for i := range size {
				done(t, w, api.OK)
				shows(t, w, top+1, top+1+uint32(i), 0, size-1-i)
			}
			done(t, w, api.ErrState)
			shows(t, w, top+1, top+uint32(size), 0, 0)
		}
	}
}

// P19.2: 64 that came now wait, and a 65th does not, whatever its number; what has a number is not counted with them.
func TestNow(t *testing.T) {
	w := open(t, 9, 64)
	var want []int64
	for i := range 64 {
		come(t, w, uint32(i%3)+8, true, int64(i), api.OK)
		come(t, w, uint32(i)+9, false, int64(1000+i), api.OK)
		want = append(want, int64(i), int64(1000+i))
	}
	shows(t, w, 73, 72, 0, 64)
	for _, n := range []uint32{0, 8, 9, 73, math.MaxUint32} {
		come(t, w, n, true, 5, api.ErrFull)
	}
	for range 64 {
		done(t, w, api.OK) // nobody must have been told for that
	}
	done(t, w, api.ErrState) // what came now is not among these
	for range 2 {
		id, ok := w.Next()
		if !ok || id != want[0] {
			t.Fatal(id, ok)
		}
		want = want[1:]
		if id == 0 {
			come(t, w, 0, true, 2000, api.OK)
		}
		come(t, w, 0, true, 5, api.ErrFull)
	}
	come(t, w, 73, false, 2001, api.OK) // of what has a number more may wait
	tells(t, w, append(want, 2000, 2001)...)
	come(t, w, 0, true, 3000, api.OK)
	shows(t, w, 74, 136, 0, 1)
	tells(t, w, 3000)
}

// P19.2: what comes now goes behind what waits already, and ahead of what is only held; a number that came now can come in its turn.
func TestNowBetween(t *testing.T) {
	w := open(t, 1, 4)
	come(t, w, 1, false, 10, api.OK)
	come(t, w, 3, false, 30, api.OK)
	come(t, w, 3, true, 99, api.OK)
	come(t, w, 2, true, 98, api.OK)
	shows(t, w, 2, 4, 1, 1)
	come(t, w, 3, false, 31, api.ErrState)
	come(t, w, 2, false, 20, api.OK)
	tells(t, w, 10, 99, 98, 20, 30)
	shows(t, w, 4, 4, 0, 3)
}

// model is a window, as the document says it.
type model struct {
	first    uint64 // without going round
	expected uint64
	size     int
	busy     int
	held     map[uint64]int64
	wait     []int64
	now      []bool
}

func (m *model) come(n uint32, now bool, id int64) api.Errno {
	if now {
		count := 0
		for _, x := range m.now {
			if x {
				count++
			}
		}
		if count >= 64 {
			return api.ErrFull
		}
		m.wait, m.now = append(m.wait, id), append(m.now, true)
		return api.OK
	}
	for at := m.expected; at < m.expected+uint64(m.size-m.busy); at++ {
		if uint32(at) != n {
			continue
		}
		if _, ok := m.held[at]; ok {
			return api.ErrState
		}
		m.held[at] = id
		for {
			x, ok := m.held[m.expected]
			if !ok {
				return api.OK
			}
			delete(m.held, m.expected)
			m.wait, m.now = append(m.wait, x), append(m.now, false)
			m.busy++
			m.expected++
		}
	}
	return api.ErrState
}

// P19.1 to P19.5: windows of any size, at random, against the model.
func TestAtRandom(t *testing.T) {
	rnd := rand.New(rand.NewSource(19))
	seen := map[api.Errno]int{}
	for range 1500 {
		first, size := firsts()[rnd.Intn(len(firsts()))], 1+rnd.Intn(64)
		if rnd.Intn(2) == 0 {
			size = 1 + rnd.Intn(4)
		}
		w := open(t, first, size)
		m := &model{first: uint64(first) + 1<<32, expected: uint64(first) + 1<<32, size: size, held: map[uint64]int64{}}
		nows := rnd.Intn(4)
		highest := m.expected + uint64(size) - 1
		for step := range 400 {
			switch k := rnd.Intn(10); {
			case k < 6:
				n := uint32(m.expected) + uint32(rnd.Intn(size+3)) - 1
				if rnd.Intn(20) == 0 {
					n = rnd.Uint32()
				}
				now := rnd.Intn(4) < nows
				id := rnd.Int63() - rnd.Int63()
				want := m.come(n, now, id)
				come(t, w, n, now, id, want)
				seen[want]++
			case k < 8:
				id, ok := w.Next()
				if ok != (len(m.wait) > 0) || ok && id != m.wait[0] || !ok && id != 0 {
					t.Fatalf("Next: %d %v, not of %v", id, ok, m.wait)
				}
				if ok {
					m.wait, m.now = m.wait[1:], m.now[1:]
				}
			default:
				want := api.OK
				if m.busy == 0 {
					want = api.ErrState
				} else {
					m.busy--
				}
				done(t, w, want)
			}
			top := m.expected + uint64(size) - 1 - uint64(m.busy)
			shows(t, w, uint32(m.expected), uint32(top), len(m.held), m.busy)
			if top < highest || w.Held()+w.Busy() > size {
				t.Fatal("step", step, "highest", highest, top, "held", w.Held(), "busy", w.Busy(), "of", size)
			}
			highest = top
		}
	}
	for _, e := range []api.Errno{api.OK, api.ErrState, api.ErrFull} {
		if seen[e] < 1000 {
			t.Error("too few", e, seen[e])
		}
	}
}

// P19.4: commands that come in any order, some of them again and again, and are done: each is told once, in the order of its number.
func TestOnce(t *testing.T) {
	rnd := rand.New(rand.NewSource(20))
	for _, first := range firsts() {
		for _, size := range []int{1, 2, 3, 32, 63, 64} {
			w := open(t, first, size)
			next := int64(0)
			for next < 300 {
				i := next + int64(rnd.Intn(size+2)) - 1
				w.Come(first+uint32(i), false, i)
				for {
					id, ok := w.Next()
					if !ok {
						break
					}
					if id != next {
						t.Fatalf("%d, not %d", id, next)
					}
					next++
				}
				if rnd.Intn(3) > 0 {
					w.Done()
				}
			}
		}
	}
}
