package target

import (
	"slices"

	"caisson/api"
	"caisson/cluster"
)

// Power lets all machines lose their power: each one's disk keeps what kept says at its place of what was not flushed, and all start again, with nothing on its way.
func (t *Target) Power(kept [][]int) api.Errno {
	if t.isNone() {
		return api.ErrNil
	}
	var images [][]byte
	for i := range t.machines() {
		d := t.cluster.Disk(i)
		var of []int
		if i < len(kept) {
			of = kept[i]
		}
		if e := d.Crash(of); e != api.OK {
			return e
		}
		images = append(images, d.Image())
	}
	x, e := cluster.Load(t.conf, images)
	if e != api.OK {
		return e
	}
	t.cluster = x
	clear(t.sessions[:])
	return api.OK
}

// Restart lets nobody be cut off, and all machines stop, keeping all, and start again.
func (t *Target) Restart() api.Errno {
	if t.isNone() {
		return api.ErrNil
	}
	all, most := 0, 0
	for i := range t.machines() {
		all |= 1 << i
		most = max(most, t.cluster.Disk(i).Pending())
	}
	t.Step(api.Event{Kind: api.EvCut})
	t.Step(api.Event{Kind: api.EvCrash, N: all, L: slices.Repeat([]int{-1}, most)})
	return api.OK
}
