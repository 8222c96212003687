package cdb

import (
	"caisson/api"
	"caisson/field"
)

// The sizes of an Unmap's data, and of their numbers.
const (
	lengthSize = 2
	headSize   = 8
	rangeSize  = 16
	lbaSize    = 8
	countSize  = 4
	restSize   = 4 // of what is 0, in the head and in each range
	mostRanges = 32
)

// The sizes of a PrOut's data: three numbers, the last one 0.
const (
	keySize  = 8
	keysSize = 3 * keySize
)

// Range is some blocks.
type Range struct {
	Lba uint64
	N   int
}

// Ranges is what the data of an Unmap say.
func Ranges(b []byte) ([]Range, api.Errno) {
	if len(b) < headSize {
		return nil, api.ErrShort
	}
	r := field.NewReader(b)
	behind, ranges, rest := r.Num(lengthSize), r.Num(lengthSize), r.Num(restSize)
	if behind != int64(len(b)-lengthSize) || ranges != int64(len(b)-headSize) || ranges%rangeSize != 0 || rest != 0 {
		return nil, api.ErrForm
	}
	var l []Range
	for range ranges / rangeSize {
		l = append(l, Range{Lba: uint64(r.Num(lbaSize)), N: int(r.Num(countSize))})
		if r.Num(restSize) != 0 {
			return nil, api.ErrForm
		}
	}
	if len(l) > mostRanges { // asked last: a form that is not right is told ahead of it
		return nil, api.ErrSize
	}
	return l, api.OK
}

// PutRanges is the data of an Unmap of these ranges.
func PutRanges(l []Range) ([]byte, api.Errno) {
	if len(l) > mostRanges {
		return nil, api.ErrSize
	}
	w := field.NewWriter()
	w.Num(lengthSize, int64(headSize-lengthSize+len(l)*rangeSize))
	w.Num(lengthSize, int64(len(l)*rangeSize))
	w.Num(restSize, 0)
	for _, x := range l {
		if x.N < 0 { // a Writer would take it
			return nil, api.ErrSize
		}
		w.Num(lbaSize, int64(x.Lba))
		w.Num(countSize, int64(x.N))
		w.Num(restSize, 0)
	}
	return w.End() // its one error here: ErrSize of an N
}

// Keys is what the data of a PrOut say: the nexus' own key, and another one.
func Keys(b []byte) (uint64, uint64, api.Errno) {
	if len(b) < keysSize {
		return 0, 0, api.ErrShort
	}
	r := field.NewReader(b)
	key, next, rest := r.Num(keySize), r.Num(keySize), r.Num(keySize)
	if rest != 0 || r.End() != api.OK {
		return 0, 0, api.ErrForm
	}
	return uint64(key), uint64(next), api.OK
}

// PutKeys is the data of a PrOut with these keys.
func PutKeys(key, next uint64) []byte {
	w := field.NewWriter()
	w.Num(keySize, int64(key))
	w.Num(keySize, int64(next))
	w.Num(keySize, 0)
	b, _ := w.End() // of 8 bytes any number goes
	return b
}
