// Package field is layer 2: fields of bytes, numbers that go round. See shared/doc/02-field.md.
package field

import (
	"slices"

	"caisson/api"
)

// widest is the most bytes that a number has.
const widest = 8

// Put is b with n in the size bytes from at on, the highest byte first.
func Put(b []byte, at, size int, n uint64) ([]byte, api.Errno) {
	if !inside(b, at, size) {
		return nil, api.ErrArg
	}
	if !goesInto(size, n) {
		return nil, api.ErrSize
	}
	out := slices.Clone(b)
	all := bytesOf(n)
	copy(out[at:], all[widest-size:])
	return out, api.OK
}

// Get is the number in the size bytes of b from at on.
func Get(b []byte, at, size int) (uint64, api.Errno) {
	if !inside(b, at, size) {
		return 0, api.ErrArg
	}
	return numberAt(b, at, size), api.OK
}

// Set is c with n in the size bits from bit low on.
func Set(c byte, low, size int, n int) (byte, api.Errno) {
	if !bitsInside(low, size) {
		return 0, api.ErrArg
	}
	if n < 0 || n > ones(size) {
		return 0, api.ErrSize
	}
	return byte(int(c)&^(ones(size)<<low) | n<<low), api.OK
}

// Bits is the number in the size bits of c from bit low on.
func Bits(c byte, low, size int) (int, api.Errno) {
	if !bitsInside(low, size) {
		return 0, api.ErrArg
	}
	return int(c) >> low & ones(size), api.OK
}

// Add is b, the length of p in size bytes, and p.
func Add(b []byte, size int, p []byte) ([]byte, api.Errno) {
	if e := addError(size, p); e != api.OK {
		return nil, e
	}
	out := make([]byte, 0, len(b)+size+len(p))
	return addTo(append(out, b...), size, p), api.OK
}

// Cut takes b apart as Add has put it together: p, and what stands behind it.
func Cut(b []byte, size int) ([]byte, []byte, api.Errno) {
	end, e := cutEnd(b, size)
	if e != api.OK {
		return nil, nil, e
	}
	return slices.Clone(b[size:end]), slices.Clone(b[end:]), api.OK
}

func isWidth(size int) bool { return size >= 1 && size <= widest }

func isLengthWidth(size int) bool { return size == 1 || size == 2 || size == 4 }

func inside(b []byte, at, size int) bool {
	return isWidth(size) && at >= 0 && at <= len(b)-size
}

// bitsInside does not add low and size: two great numbers would go round.
func bitsInside(low, size int) bool { return low >= 0 && size >= 1 && low <= 8-size }

// ones is a number of size bits that are all 1.
func ones(size int) int { return 1<<size - 1 }

// goesInto holds of 8 bytes for any n, as a shift by all 64 bits leaves 0.
func goesInto(size int, n uint64) bool { return n>>(8*size) == 0 }

// bytesOf has the bytes of n, the highest first, so that its last ones are n in fewer bytes.
func bytesOf(n uint64) [widest]byte {
	var all [widest]byte
	for i := range widest {
		all[widest-1-i] = byte(n >> (8 * i))
	}
	return all
}

func numberAt(b []byte, at, size int) uint64 {
	var n uint64
	for i := range size {
		n = n<<8 | uint64(b[at+i])
	}
	return n
}

func addError(size int, p []byte) api.Errno {
	if !isLengthWidth(size) {
		return api.ErrArg
	}
	if len(p) > api.MaxBytes || !goesInto(size, uint64(len(p))) {
		return api.ErrSize
	}
	return api.OK
}

// addTo appends in place: b is the caller's own.
func addTo(b []byte, size int, p []byte) []byte {
	return append(numberTo(b, size, uint64(len(p))), p...)
}

// numberTo appends in place: b is the caller's own.
func numberTo(b []byte, size int, n uint64) []byte {
	all := bytesOf(n)
	return append(b, all[widest-size:]...)
}

// cutEnd is where p ends in b, its length standing in the first size bytes.
func cutEnd(b []byte, size int) (int, api.Errno) {
	if !isLengthWidth(size) {
		return 0, api.ErrArg
	}
	if len(b) < size {
		return 0, api.ErrShort
	}
	n := numberAt(b, 0, size)
	if n > api.MaxBytes {
		return 0, api.ErrSize
	}
	end := size + int(n)
	if end > len(b) {
		return 0, api.ErrShort
	}
	return end, api.OK
}
