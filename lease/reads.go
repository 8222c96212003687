package lease

import (
	"iter"
	"math"
	"slices"

	"caisson/api"
)

// read waits until all entries up to its index are done.
type read struct{ id, index int64 }

// Reads is reads that wait until all that was agreed when they came is done.
type Reads struct{ waiting queue[read] }

// NewReads has none that wait.
func NewReads() *Reads { return &Reads{} }

// Ask has a read wait, the last one: all up to index was agreed when it came.
func (r *Reads) Ask(id, index int64) api.Errno {
	if r == nil {
		return api.ErrNil
	}
	if index < 0 {
		return api.ErrArg
	}
	if r.waiting.has(func(x read) bool { return x.id == id }) {
		return api.ErrState
	}
	if r.waiting.size() >= Most {
		return api.ErrFull
	}
	r.waiting.add(read{id, index})
	return api.OK
}

// Ready goes through the reads that may be answered, as all up to applied is done. They are taken here and not while they are gone through: whoever stops halfway is not told the others by a later call.
func (r *Reads) Ready(applied int64) iter.Seq[int64] {
	return slices.Values(r.take(applied))
}

// Drop is all reads that wait; they wait no more.
func (r *Reads) Drop() []int64 { return r.take(math.MaxInt64) }

// Len is how many wait.
func (r *Reads) Len() int {
	if r == nil {
		return 0
	}
	return r.waiting.size()
}

// take is the ids of the reads up to an index, which wait no more.
func (r *Reads) take(index int64) []int64 {
	if r == nil {
		return nil
	}
	var ids []int64
	for _, x := range r.waiting.take(func(x read) bool { return x.index <= index }) {
		ids = append(ids, x.id)
	}
	return ids
}
