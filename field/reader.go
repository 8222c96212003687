package field

import (
	"slices"

	"caisson/api"
)

// Reader reads one field behind the other; the first error stays.
type Reader struct {
	left []byte
	err  api.Errno
}

// NewReader reads a copy of b from its beginning on.
func NewReader(b []byte) *Reader { return &Reader{left: slices.Clone(b)} }

// Num is the next size bytes as a number, below 0 of 8 bytes only.
func (r *Reader) Num(size int) int64 {
	if r == nil || r.err != api.OK {
		return 0
	}
	if e := r.numError(size); e != api.OK {
		r.fail(e)
		return 0
	}
	n := numberAt(r.left, 0, size)
	r.left = r.left[size:]
	return int64(n)
}

// Bytes is the next bytes, as many as the size bytes ahead of them say.
func (r *Reader) Bytes(size int) []byte {
	if r == nil || r.err != api.OK {
		return nil
	}
	end, e := cutEnd(r.left, size)
	if e != api.OK {
		r.fail(e)
		return nil
	}
	p := slices.Clone(r.left[size:end])
	r.left = r.left[end:]
	return p
}

// Count is a number of things that follow, of at least a byte each: one that bytes cannot be there for is refused ahead of any of them.
func (r *Reader) Count(size, most int) int {
	n := r.Num(size)
	if r == nil || r.err != api.OK {
		return 0
	}
	if n < 0 || n > int64(most) {
		r.fail(api.ErrSize)
		return 0
	}
	if n > int64(len(r.left)) {
		r.fail(api.ErrShort)
		return 0
	}
	return int(n)
}

// End is the first error, or whether all has been read. Bytes that are left can still be read: telling of them is no error that stays.
func (r *Reader) End() api.Errno {
	if r == nil {
		return api.ErrNil
	}
	if r.err == api.OK && len(r.left) > 0 {
		return api.ErrForm
	}
	return r.err
}

// fail lets go of the bytes: behind an error nobody can read them.
func (r *Reader) fail(e api.Errno) {
	r.left, r.err = nil, e
}

func (r *Reader) numError(size int) api.Errno {
	if !isWidth(size) {
		return api.ErrArg
	}
	if len(r.left) < size {
		return api.ErrShort
	}
	return api.OK
}
