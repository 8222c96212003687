package lease_test

import (
	"math"
	"math/rand"
	"slices"
	"testing"

	"caisson/api"
	"caisson/lease"
)

func ask(t *testing.T, r *lease.Reads, id, index int64) {
	t.Helper()
	if e := r.Ask(id, index); e != api.OK {
		t.Fatal("Ask", id, index, e)
	}
}

func ready(r *lease.Reads, applied int64) []int64 { return slices.Collect(r.Ready(applied)) }

// P11.2: those whose index is not above applied, in the order in which they were asked.
func TestReadyInOrder(t *testing.T) {
	r := lease.NewReads()
	if r.Len() != 0 || len(ready(r, math.MaxInt64)) != 0 || len(r.Drop()) != 0 {
		t.Error("NewReads")
	}
	for i, x := range [][2]int64{{9, 5}, {-4, 3}, {0, 7}, {math.MinInt64, 4}, {math.MaxInt64, 0}, {3, 3}, {5, math.MaxInt64}} {
		ask(t, r, x[0], x[1])
		if r.Len() != i+1 {
			t.Error("Len", r.Len())
		}
	}
	for _, c := range []struct {
		applied int64
		want    []int64
		left    int
	}{
		{math.MinInt64, nil, 7}, {-1, nil, 7}, {0, []int64{math.MaxInt64}, 6}, {0, nil, 6}, {2, nil, 6},
		{4, []int64{-4, math.MinInt64, 3}, 3}, {3, nil, 3}, {6, []int64{9}, 2},
		{math.MaxInt64 - 1, []int64{0}, 1}, {math.MaxInt64, []int64{5}, 0}, {math.MaxInt64, nil, 0},
	} {
		if got := ready(r, c.applied); !slices.Equal(got, c.want) || r.Len() != c.left {
			t.Error("Ready", c.applied, got, r.Len())
		}
	}
}

// P11.2: which error comes first, and that nothing changes with it.
func TestAskErrors(t *testing.T) {
	r := lease.NewReads()
	for i := range int64(100) {
		for _, index := range []int64{-1, math.MinInt64} {
			if e := r.Ask(i, index); e != api.ErrArg {
				t.Fatal("Ask", i, index, e)
			}
		}
		ask(t, r, i, i)
		if e := r.Ask(i, 9); e != api.ErrState {
			t.Fatal("Ask", i, e)
		}
	}
	for _, c := range []struct {
		id, index int64
		want      api.Errno
	}{
		{100, 0, api.ErrFull}, {math.MinInt64, math.MaxInt64, api.ErrFull}, {-1, 5, api.ErrFull},
		{0, 0, api.ErrState}, {99, math.MaxInt64, api.ErrState}, {50, 50, api.ErrState},
		{100, -1, api.ErrArg}, {50, -1, api.ErrArg},
	} {
		if e := r.Ask(c.id, c.index); e != c.want || r.Len() != 100 {
			t.Error("Ask", c.id, c.index, e, r.Len())
		}
	}
	if got := ready(r, 9); len(got) != 10 || got[9] != 9 {
		t.Error("Ready: a refused Ask changed an index", got)
	}
	ask(t, r, 9, 500) // it waits no more, so it may be asked again
	if e := r.Ask(9, 500); e != api.ErrState || r.Len() != 91 {
		t.Error("Ask", e, r.Len())
	}
	if all := r.Drop(); len(all) != 91 || all[0] != 10 || all[90] != 9 {
		t.Error("Drop", all)
	}
}

// P11.2: they wait no more from the call of Ready on, whether or not they are gone through.
func TestReadyIsNotGoneThrough(t *testing.T) {
	r := lease.NewReads()
	for i := range int64(6) {
		ask(t, r, i, i)
	}
	later := r.Ready(3)
	if r.Len() != 2 || len(ready(r, 3)) != 0 {
		t.Error("they wait still", r.Len())
	}
	ask(t, r, 1, 2)
	if got := slices.Collect(later); !slices.Equal(got, []int64{0, 1, 2, 3}) {
		t.Error("gone through later", got)
	}
	if r.Len() != 3 {
		t.Error("going through took others away", r.Len())
	}
	for id := range r.Ready(5) { // stops at the first one
		if id != 4 {
			t.Error("Ready", id)
		}
		break
	}
	if r.Len() != 0 || len(r.Drop()) != 0 {
		t.Error("they wait still", r.Len())
	}
}

// P11.2: what is asked while they are gone through waits, and is not seen there.
func TestAskWhileGoneThrough(t *testing.T) {
	r := lease.NewReads()
	for i := range int64(4) {
		ask(t, r, i, 0)
	}
	var seen []int64
	for id := range r.Ready(0) {
		seen = append(seen, id)
		ask(t, r, id, 0) // again, as it waits no more
	}
	if !slices.Equal(seen, []int64{0, 1, 2, 3}) || r.Len() != 4 {
		t.Error(seen, r.Len())
	}
}

// P11.2: Drop is all of them, whatever their index, in order; its answer is the caller's own.
func TestDrop(t *testing.T) {
	r := lease.NewReads()
	for _, id := range []int64{5, 2, 8} {
		ask(t, r, id, math.MaxInt64-id)
	}
	ask(t, r, 1, math.MaxInt64)
	all := r.Drop()
	if !slices.Equal(all, []int64{5, 2, 8, 1}) || r.Len() != 0 {
		t.Error("Drop", all, r.Len())
	}
	ask(t, r, 5, 0)
	_ = append(all[:1], 77, 78)
	if got := ready(r, 0); !slices.Equal(got, []int64{5}) || len(r.Drop()) != 0 {
		t.Error("Ready", got)
	}
}

// P11.2, P1: of nil, and of what NewReads has not made.
func TestNilReads(t *testing.T) {
	var r *lease.Reads
	if r.Ask(1, 1) != api.ErrNil || r.Ask(1, -1) != api.ErrNil || len(ready(r, 5)) != 0 || len(r.Drop()) != 0 || r.Len() != 0 {
		t.Error("of nil")
	}
	var z lease.Reads
	if len(ready(&z, 5)) != 0 || z.Ask(1, 1) != api.OK || z.Len() != 1 || len(z.Drop()) != 1 {
		t.Error("zero")
	}
}

// P11.4: each read that is asked is told once, by Ready or Drop, and none ahead of its index.
func TestToldOnce(t *testing.T) {
	full, twice, dropped := 0, 0, 0
	for seed := range int64(100) {
		rnd := rand.New(rand.NewSource(seed))
		r := lease.NewReads()
		var waits [][2]int64 // id and index
		drop := func(gone func(x [2]int64) bool) []int64 {
			var ids []int64
			for _, x := range waits {
				if gone(x) {
					ids = append(ids, x[0])
				}
			}
			waits = slices.DeleteFunc(waits, gone)
			return ids
		}
		commit := int64(0)
		for range 600 {
			commit += int64(rnd.Intn(2))
			switch n := rnd.Intn(40); {
			case n == 0:
				applied := commit - int64(rnd.Intn(40))
				want := drop(func(x [2]int64) bool { return x[1] <= applied })
				if got := ready(r, applied); !slices.Equal(got, want) {
					t.Fatal(seed, "Ready", got, want)
				}
			case n == 1 && rnd.Intn(10) == 0:
				want := drop(func([2]int64) bool { return true })
				if got := r.Drop(); !slices.Equal(got, want) {
					t.Fatal(seed, "Drop", got, want)
				}
				dropped += len(want)
			default:
				id, want := int64(rnd.Intn(1000)), api.OK
				if slices.ContainsFunc(waits, func(x [2]int64) bool { return x[0] == id }) {
					want = api.ErrState
					twice++
				} else if len(waits) == 100 {
					want = api.ErrFull
					full++
				} else {
					waits = append(waits, [2]int64{id, commit})
				}
				if e := r.Ask(id, commit); e != want {
					t.Fatal(seed, "Ask", id, e, want)
				}
			}
			if r.Len() != len(waits) {
				t.Fatal(seed, "Len", r.Len())
			}
		}
	}
	if full < 50 || twice < 50 || dropped < 50 {
		t.Error("too few", full, twice, dropped)
	}
}
