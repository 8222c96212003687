package extent

import (
	"iter"
	"slices"

	"caisson/api"
)

// run is count blocks that are there, from the number first on.
type run struct{ first, count int }

// Runs goes through the runs of blocks that are there, rising. They are gathered here and not while they are gone through: what changes meanwhile is not seen.
func (m *Image) Runs() iter.Seq2[int, int] {
	l := m.runs()
	return func(yield func(int, int) bool) {
		for _, r := range l {
			if !yield(r.first, r.count) {
				return
			}
		}
	}
}

// Diff is the fewest changes that make o of m, rising.
func (m *Image) Diff(o *Image) ([]api.Change, api.Errno) {
	if m == nil || o == nil {
		return nil, api.ErrNil
	}
	if m.size != o.size {
		return nil, api.ErrArg
	}
	var l []api.Change
	for lba := range m.size {
		if !m.agrees(o, lba) {
			l = append(l, o.changeTo(lba))
		}
	}
	return l, api.OK
}

func (m *Image) runs() []run {
	var l []run
	for lba := range m.Size() {
		if !m.Has(lba) {
			continue
		}
		if m.Has(lba - 1) {
			l[len(l)-1].count++
		} else {
			l = append(l, run{lba, 1})
		}
	}
	return l
}

// agrees tells whether the block lba is there in both with the same bytes, or in neither.
func (m *Image) agrees(o *Image, lba int) bool {
	return m.Has(lba) == o.Has(lba) && m.there[lba] == o.there[lba]
}

// changeTo is the change that makes of any image's block lba what it is here.
func (m *Image) changeTo(lba int) api.Change {
	b, ok := m.there[lba]
	if !ok {
		return api.Change{Lba: lba}
	}
	return api.Change{Lba: lba, Data: slices.Clone(b[:])}
}
