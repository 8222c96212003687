package sense

import (
	"caisson/api"
	"caisson/field"
)

const (
	keySize    = 8
	holderSize = 16 // of what follows, if there is a reservation
	highestGen = 1<<32 - 1
	mostKind   = 8
)

// Keys is the keys of those who have registered.
func Keys(gen int64, keys []uint64) ([]byte, api.Errno) {
	if !isGen(gen) {
		return nil, api.ErrArg
	}
	if len(keys) > api.MaxNexus {
		return nil, api.ErrSize
	}
	w := field.NewWriter()
	w.Num(wordSize, gen)
	w.Num(wordSize, int64(len(keys)*keySize))
	for _, key := range keys {
		w.Num(keySize, int64(key))
	}
	return w.End()
}

// Holder is the reservation: the key of who holds it, and its type; of the type 0 there is none.
func Holder(gen int64, key uint64, kind int) ([]byte, api.Errno) {
	if !isGen(gen) || !isFrom(0, kind, mostKind) {
		return nil, api.ErrArg
	}
	w := field.NewWriter()
	w.Num(wordSize, gen)
	if kind == 0 {
		w.Num(wordSize, 0)
		return w.End()
	}
	w.Num(wordSize, holderSize)
	w.Num(keySize, int64(key))
	w.Num(4, 0)
	w.Num(1, 0)
	w.Num(1, int64(kind))
	w.Num(2, 0)
	return w.End()
}

// isGen is asked ahead of a Writer, which would take numbers below 0.
func isGen(n int64) bool { return n >= 0 && n <= highestGen }
