package field

import (
	"slices"

	"caisson/api"
)

// Writer writes one field behind the other; the first error stays.
type Writer struct {
	written []byte
	err     api.Errno
}

// NewWriter has written nothing yet.
func NewWriter() *Writer { return &Writer{} }

// Num writes n in size bytes, a negative one as 2^(8 size) and n.
func (w *Writer) Num(size int, n int64) {
	if w == nil || w.err != api.OK {
		return
	}
	if e := numError(size, n); e != api.OK {
		w.fail(e)
		return
	}
	w.written = numberTo(w.written, size, uint64(n))
}

// Bytes writes the length of p in size bytes, and p.
func (w *Writer) Bytes(size int, p []byte) {
	if w == nil || w.err != api.OK {
		return
	}
	if e := addError(size, p); e != api.OK {
		w.fail(e)
		return
	}
	w.written = addTo(w.written, size, p)
}

// End is what was written, or the first error.
func (w *Writer) End() ([]byte, api.Errno) {
	if w == nil {
		return nil, api.ErrNil
	}
	if w.err != api.OK {
		return nil, w.err
	}
	return slices.Clone(w.written), api.OK
}

// fail lets go of the bytes: behind an error nobody can ask for them.
func (w *Writer) fail(e api.Errno) {
	w.written, w.err = nil, e
}

func numError(size int, n int64) api.Errno {
	if !isWidth(size) {
		return api.ErrArg
	}
	if size == widest { // the bounds below would not go into an int64
		return api.OK
	}
	if n < -(1<<(8*size-1)) || n > 1<<(8*size)-1 {
		return api.ErrSize
	}
	return api.OK
}
