package chunk

import (
	"caisson/api"
	"caisson/field"
	"caisson/sums"
)

// How many bytes the numbers of a piece have.
const (
	idSize     = 8
	numberSize = 2
	countSize  = 2
	lengthSize = 2
	sumSize    = 4
)

// piece is the piece of an image with that number, from 0 on, of count.
type piece struct {
	id     int64
	number int
	count  int
	whole  uint32 // the sum of all bytes of the image
	data   []byte
}

// encode is of a piece that can be: nothing of it is too great for its bytes.
func (p piece) encode() []byte {
	w := field.NewWriter()
	w.Num(idSize, p.id)
	w.Num(numberSize, int64(p.number))
	w.Num(countSize, int64(p.count))
	w.Num(sumSize, int64(p.whole))
	w.Bytes(lengthSize, p.data)
	ahead, _ := w.End()
	w.Num(sumSize, int64(sums.Sum(ahead)))
	b, _ := w.End()
	return b
}

// decode is the piece that b is, if it is one.
func decode(b []byte) (piece, api.Errno) {
	r := field.NewReader(b)
	var p piece
	p.id = r.Num(idSize)
	p.number = int(r.Num(numberSize))
	p.count = int(r.Num(countSize))
	p.whole = uint32(r.Num(sumSize))
	p.data = r.Bytes(lengthSize)
	sum := r.Num(sumSize)
	if e := r.End(); e != api.OK {
		return piece{}, e
	}
	if sum != int64(sums.Sum(b[:len(b)-sumSize])) {
		return piece{}, api.ErrSum
	}
	if !p.canBe() {
		return piece{}, api.ErrArg
	}
	return p, api.OK
}

// canBe needs no look for a count of 0: no number is below it.
func (p piece) canBe() bool {
	return isId(p.id) && p.count <= Most && p.number < p.count && len(p.data) <= mostBytes
}
