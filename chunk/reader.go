package chunk

import (
	"iter"
	"slices"
	"sync"
	"sync/atomic"

	"caisson/api"
	"caisson/sums"
)

// Reader gathers the pieces of an image, in any order: of the one with the highest id that it has been given.
type Reader struct {
	id      int64 // 0: it gathers nothing
	whole   uint32
	there   []bool   // by the numbers of the pieces
	data    [][]byte // likewise; nil, if there are too many bytes
	length  int      // of all pieces that are there
	added   atomic.Int64
	closing sync.Once
	closed  bool
}

// New gathers nothing yet.
func New() *Reader { return &Reader{} }

// Add gathers the piece that p is.
func (r *Reader) Add(p []byte) api.Errno {
	if r == nil {
		return api.ErrNil
	}
	if r.closed {
		return api.ErrState
	}
	x, e := decode(p)
	if e != api.OK {
		return e
	}
	if x.id > r.id {
		r.begin(x)
	}
	if x.id < r.id {
		return api.ErrState
	}
	if x.count != len(r.there) || x.whole != r.whole {
		return api.ErrForm
	}
	r.put(x)
	r.added.Add(1)
	return api.OK
}

// Whole is the image, if all its pieces are there and make it.
func (r *Reader) Whole() ([]byte, bool) {
	if r == nil || r.id == 0 || r.length > api.MaxBytes || slices.Contains(r.there, false) {
		return nil, false
	}
	b := slices.Concat(r.data...)
	if sums.Sum(b) != r.whole {
		return nil, false
	}
	return b, true
}

// Missing goes through the numbers of the pieces that are not there, rising. They are gathered here and not while they are gone through: what is added meanwhile is not seen.
func (r *Reader) Missing() iter.Seq[int] {
	if r == nil {
		return slices.Values([]int(nil))
	}
	var l []int
	for number, there := range r.there {
		if !there {
			l = append(l, number)
		}
	}
	return slices.Values(l)
}

// Id is that of the image that is gathered.
func (r *Reader) Id() int64 {
	if r == nil {
		return 0
	}
	return r.id
}

// Count is how many pieces the image has that is gathered.
func (r *Reader) Count() int {
	if r == nil {
		return 0
	}
	return len(r.there)
}

// Added is how many pieces were taken, of all images; others may ask it while pieces are added.
func (r *Reader) Added() int64 {
	if r == nil {
		return 0
	}
	return r.added.Load()
}

// Close takes no piece from now on, and tells whether it is the first one.
func (r *Reader) Close() bool {
	if r == nil {
		return false
	}
	first := false
	r.closing.Do(func() { r.closed, first = true, true })
	return first
}

// begin gathers the image of p, and has no piece of it yet.
func (r *Reader) begin(p piece) {
	r.id, r.whole, r.length = p.id, p.whole, 0
	r.there = make([]bool, p.count)
	r.data = make([][]byte, p.count)
}

// put lets go of all bytes as soon as they are too many for an image: from then on it is only told which pieces are there.
func (r *Reader) put(p piece) {
	if r.there[p.number] {
		return
	}
	r.there[p.number] = true
	r.length += len(p.data)
	if r.length > api.MaxBytes {
		r.data = nil
		return
	}
	r.data[p.number] = p.data
}
