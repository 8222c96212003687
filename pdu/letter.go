package pdu

import (
	"slices"

	"caisson/api"
	"caisson/field"
	"caisson/sums"
)

// The parts of a letter, in their order. The body is its data with the 0 behind them.
const (
	head = iota
	headSum
	body
	dataSum
	parts // how many there are
)

// letter has the bytes of each part; of one that is not there, none.
type letter [parts][]byte

// Places in a head, and the sizes of what stands there.
const (
	moreAt    = 4 // how many additional heads there are
	countAt   = 5
	countSize = 3
	lunSize   = 8
	wordSize  = 4
)

// The bits of a head's first byte: the lowest ones are the operation.
const (
	opBits  = 0x3f
	nowBit  = 0x40
	highBit = 0x80
)

const digestSize = 4

// walk is the letter that b begins with, what is wrong with it, and whether it is whole. If it is not, and yet something is wrong, that is its head.
func (o Opts) walk(b []byte) (letter, api.Errno, bool) {
	var l letter
	fault, whole := api.OK, false
through:
	for part := range parts {
		size := o.size(l, part)
		if len(b) < size {
			break through
		}
		l[part], b = b[:size], b[size:]
		switch part {
		case headSum:
			fault = o.headFault(l)
			if fault != api.OK { // how many data there are can not be believed
				break through
			}
		case dataSum:
			fault, whole = o.bodyFault(l), true
		}
	}
	return l, fault, whole
}

// size is how many bytes a part has. From the body on it asks the head.
func (o Opts) size(l letter, part int) int {
	switch {
	case part == head:
		return Head
	case part == headSum && o.HeadSum:
		return digestSize
	case part == body:
		return l.count() + sums.Pad(l.count())
	case part == dataSum && o.hasDataSum(l):
		return digestSize
	}
	return 0
}

func (o Opts) hasDataSum(l letter) bool { return o.DataSum && l.count() > 0 }

// headFault is what is wrong with a head that is there, with its digest.
func (o Opts) headFault(l letter) api.Errno {
	switch {
	case o.HeadSum && !sums.Right(l[head], l[headSum]):
		return api.ErrSum
	case l[head][moreAt] != 0 || l[head][0]&highBit != 0:
		return api.ErrForm
	case l.count() > o.Most:
		return api.ErrSize
	}
	return api.OK
}

// bodyFault is what is wrong with a body that is there. Its digest is held against the bytes as they came, be those behind the data 0 or not.
func (o Opts) bodyFault(l letter) api.Errno {
	switch {
	case o.hasDataSum(l) && !sums.Right(l[body], l[dataSum]):
		return api.ErrSum
	case slices.ContainsFunc(l[body][l.count():], isNotZero):
		return api.ErrForm
	}
	return api.OK
}

func isNotZero(c byte) bool { return c != 0 }

// count is how many data there are, by the head.
func (l letter) count() int {
	n, _ := field.Get(l[head], countAt, countSize) // no error: the place is within a head
	return int(n)
}

// bytes is how many bytes all parts have.
func (l letter) bytes() int {
	n := 0
	for _, b := range l {
		n += len(b)
	}
	return n
}

// pdu is what a head tells, without the data.
func (l letter) pdu() Pdu {
	r := field.NewReader(l[head])
	first := int(r.Num(1))
	p := Pdu{Op: first & opBits, Now: first&nowBit != 0, Flags: int(r.Num(1)), B2: int(r.Num(1)), B3: int(r.Num(1))}
	r.Num(1 + countSize)
	p.Lun = uint64(r.Num(lunSize))
	p.Task = uint32(r.Num(wordSize))
	for i := range p.W {
		p.W[i] = uint32(r.Num(wordSize))
	}
	return p
}
