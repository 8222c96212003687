package past

import (
	"bytes"
	"slices"
	"testing"

	"caisson/api"
	"caisson/cdb"
	"caisson/node"
)

func writing(c byte) Ask {
	b, _ := cdb.Build(cdb.Cdb{Op: cdb.Write10, Len: 1})
	return Ask{Cdb: b, Data: bytes.Repeat([]byte{c}, api.Block)}
}

// looked is a look at calls, the orders that it goes through, at most so many, and the numbers of the calls.
func looked(t *testing.T, l []Call, most int) (*look, [][]int) {
	t.Helper()
	w, e := New(node.Conf{Nodes: 1, Units: 1, Blocks: 2, Rho: 1})
	if e != api.OK {
		t.Fatal(e)
	}
	k := &look{calls: l}
	var out [][]int
	for order := range k.orders(w, counting(l)) {
		out = append(out, order)
		if len(out) == most {
			break
		}
	}
	return k, out
}

// A look goes through all orders that explain the calls and end with one that was told, each once.
func TestOrders(t *testing.T) {
	l := []Call{
		{A: writing(1), Begin: 1, End: 9, Told: true},
		{A: writing(2), Begin: 1},
		{A: writing(3), Begin: 5, End: 9, Told: true},
	}
	want := [][]int{{0, 1, 2}, {0, 2}, {1, 0, 2}, {1, 2, 0}, {2, 0}, {2, 1, 0}}
	_, got := looked(t, l, 99)
	slices.SortFunc(got, slices.Compare)
	slices.SortFunc(want, slices.Compare)
	if !slices.EqualFunc(got, want, slices.Equal) {
		t.Error(got)
	}
	l[1].Begin = 20
	if _, got := looked(t, l, 99); len(got) != 2 {
		t.Error(got)
	}
	if _, got := looked(t, nil, 99); len(got) != 1 || len(got[0]) != 0 {
		t.Error(got)
	}
}

// What is behind others by its time is not tried ahead of them, and what was not told is not done behind all that were; who has seen enough is shown no more.
func TestCount(t *testing.T) {
	var l []Call
	for n := range Most {
		l = append(l, Call{A: writing(byte(n)), Begin: 2 * n, End: 2*n + 1, Told: true})
	}
	k, got := looked(t, l, 99)
	if len(got) != 1 || k.done.Load() != Most || k.closed {
		t.Error(got, k.done.Load())
	}
	for i := range l {
		l[i].Begin, l[i].End = 0, 99
	}
	k, got = looked(t, l, 1)
	if len(got) != 1 || k.done.Load() != Most || !k.closed {
		t.Error(got, k.done.Load())
	}
	k, got = looked(t, l, 3)
	if len(got) != 3 || !k.closed {
		t.Error(got)
	}
	for i := range l {
		l[i].Told = false
	}
	if k, got = looked(t, l, 99); len(got) != 1 || k.done.Load() != 0 {
		t.Error(got, k.done.Load())
	}
}
