package blocks

import (
	"iter"
	"maps"
	"slices"

	"caisson/api"
	"caisson/extent"
)

// stroke is sectors that are to be safe together, by their places in the area.
type stroke map[int][]byte

// strike makes the blocks those of next, and n the number. Groups that change are written at their places that are not in use; only when all of them are safe the head turns to them, and that is one sector: it is there or it is not, whatever a crash keeps and whatever the bytes are.
func (s *Store) strike(n int64, next *extent.Image) api.Errno {
	h, groups := s.plan(n, next)
	e := api.OK
	if len(groups) > 0 {
		e = s.lay(groups)
	}
	if e == api.OK {
		e = s.lay(stroke{headPlace: s.area.headSector(h, next)})
	}
	if e != api.OK {
		s.dead = true
		return e
	}
	s.head, s.image = h, next
	return api.OK
}

// plan is the head of next, and the groups that are to be safe ahead of it.
func (s *Store) plan(n int64, next *extent.Image) (head, stroke) {
	h, groups := s.head, stroke{}
	h.applied = n
	for lba := range changed(s.image, next) {
		g := groupOf(lba)
		h.turned[g] = 1 - s.head.turned[g]
		at := place(g, h.turned[g])
		if groups[at] == nil {
			groups[at] = s.area.groupSector(at, g, next)
		}
	}
	return h, groups
}

// lay writes the sectors, and makes them safe.
func (s *Store) lay(k stroke) api.Errno {
	for at, b := range k.rising() {
		if e := s.disk.Write(s.area.from+at, b); e != api.OK {
			return e
		}
	}
	return s.disk.Flush()
}

// rising goes through the sectors in the order of their places: what a crash keeps hangs on the order in which they are written, and a map has none.
func (k stroke) rising() iter.Seq2[int, []byte] {
	return func(yield func(int, []byte) bool) {
		for _, at := range slices.Sorted(maps.Keys(k)) {
			if !yield(at, k[at]) {
				return
			}
		}
	}
}

// changed goes through the blocks that are not in both images alike, rising.
func changed(old, next *extent.Image) iter.Seq[int] {
	return func(yield func(int) bool) {
		l, _ := old.Diff(next) // both are of one size
		for _, c := range l {
			if !yield(c.Lba) {
				return
			}
		}
	}
}
