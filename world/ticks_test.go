package world

import (
	"testing"

	"caisson/api"
)

// P8.4: no clock goes above MaxTicks. No test can tick so often: the clocks are set.
func TestLastTick(t *testing.T) {
	for _, c := range []struct {
		clocks []int64
		may    []bool
	}{
		{[]int64{api.MaxTicks - 1}, []bool{true}},
		{[]int64{api.MaxTicks}, []bool{false}},
		{[]int64{api.MaxTicks - 1, api.MaxTicks - 1}, []bool{true, true}},
		{[]int64{api.MaxTicks, api.MaxTicks - 1}, []bool{false, true}},
		{[]int64{api.MaxTicks, api.MaxTicks - 3, api.MaxTicks - 1}, []bool{false, true, true}},
		{[]int64{api.MaxTicks - 1, api.MaxTicks - 4, api.MaxTicks - 2}, []bool{false, true, true}},
		{[]int64{api.MaxTicks, api.MaxTicks, api.MaxTicks, api.MaxTicks, api.MaxTicks}, []bool{false, false, false, false, false}},
	} {
		for i, may := range c.may {
			w, _ := New(len(c.clocks), 3)
			copy(w.clocks, c.clocks)
			want, clock := api.OK, c.clocks[i]+1
			if !may {
				want, clock = api.ErrState, c.clocks[i]
			}
			if e := w.Tick(i); e != want || w.Clock(i) != clock {
				t.Errorf("Tick(%d) of %v: %v, %d", i, c.clocks, e, w.Clock(i))
			}
			w, _ = New(len(c.clocks), 3)
			copy(w.clocks, c.clocks)
			if w.May(i) != may {
				t.Errorf("May(%d) of %v: %v", i, c.clocks, !may)
			}
		}
	}
}
