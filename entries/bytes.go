package entries

import (
	"caisson/api"
	"caisson/field"
	"caisson/sums"
)

const (
	kindMark    = 0x40 // is added to an entry's kind
	messageMark = 0xca // begins a message
)

// How many bytes the numbers of entries and of messages have.
const (
	byteSize    = 1
	numberSize  = 6 // a term, a place, a round
	commandSize = 2 // a command's length
	countSize   = 2
	dataSize    = 4 // the length of a message's data
	sumSize     = 4
)

// What an entry and a message have beside their commands, their entries and their data.
const (
	entryFrame   = byteSize + numberSize + commandSize
	messageFrame = 5*byteSize + 5*numberSize + countSize + dataSize + sumSize
)

// Pack is the bytes of an entry.
func Pack(e api.Entry) ([]byte, api.Errno) {
	if !canBe(e) {
		return nil, api.ErrArg
	}
	w := field.NewWriter()
	writeEntry(w, e)
	return w.End()
}

// Unpack is the entry of these bytes.
func Unpack(b []byte) (api.Entry, api.Errno) {
	r := field.NewReader(b)
	x := readEntry(r)
	if e := r.End(); e != api.OK {
		return api.Entry{}, e
	}
	if !canBe(x) {
		return api.Entry{}, api.ErrArg
	}
	return x, api.OK
}

// PackMsg is the bytes of a message.
func PackMsg(m api.Msg) ([]byte, api.Errno) {
	if len(m.L) > api.MaxLog || lengthOf(m) > api.MaxBytes {
		return nil, api.ErrSize
	}
	if !canBeSent(m) {
		return nil, api.ErrArg
	}
	w := field.NewWriter()
	writeMsg(w, m)
	ahead, _ := w.End()
	w.Num(sumSize, int64(sums.Sum(ahead)))
	return w.End()
}

// UnpackMsg is the message of these bytes.
func UnpackMsg(b []byte) (api.Msg, api.Errno) {
	if len(b) > api.MaxBytes {
		return api.Msg{}, api.ErrSize
	}
	if len(b) < sumSize {
		return api.Msg{}, api.ErrShort
	}
	ahead := b[:len(b)-sumSize]
	if sum, _ := field.Get(b, len(ahead), sumSize); sum != uint64(sums.Sum(ahead)) {
		return api.Msg{}, api.ErrSum
	}
	if len(ahead) == 0 || ahead[0] != messageMark {
		return api.Msg{}, api.ErrForm
	}
	r := field.NewReader(ahead[1:])
	m, yes := readMsg(r)
	if e := r.End(); e != api.OK {
		return api.Msg{}, e
	}
	if yes > 1 {
		return api.Msg{}, api.ErrForm
	}
	if !canBeSent(m) {
		return api.Msg{}, api.ErrArg
	}
	return m, api.OK
}

func writeEntry(w *field.Writer, e api.Entry) {
	w.Num(byteSize, int64(e.Kind+kindMark))
	w.Num(numberSize, e.Term)
	w.Bytes(commandSize, e.Cmd)
}

func readEntry(r *field.Reader) api.Entry {
	kind := int(r.Num(byteSize)) - kindMark
	term := r.Num(numberSize)
	return api.Entry{Kind: kind, Term: term, Cmd: r.Bytes(commandSize)}
}

// writeMsg writes all but the sum.
func writeMsg(w *field.Writer, m api.Msg) {
	yes := 0
	if m.Yes {
		yes = 1
	}
	for _, n := range []int{messageMark, m.Kind, m.From, m.To, yes} {
		w.Num(byteSize, int64(n))
	}
	for _, n := range numbersOf(m) {
		w.Num(numberSize, n)
	}
	w.Num(countSize, int64(len(m.L)))
	for _, e := range m.L {
		writeEntry(w, e)
	}
	w.Bytes(dataSize, m.Data)
}

// readMsg reads what stands between the mark and the sum. Yes is a number too, as one above 1 is no yes and no no.
func readMsg(r *field.Reader) (api.Msg, int64) {
	var m api.Msg
	m.Kind = int(r.Num(byteSize))
	m.From = int(r.Num(byteSize))
	m.To = int(r.Num(byteSize))
	yes := r.Num(byteSize)
	m.Yes = yes == 1
	m.Term = r.Num(numberSize)
	m.At = r.Num(numberSize)
	m.AtTerm = r.Num(numberSize)
	m.Commit = r.Num(numberSize)
	m.Round = r.Num(numberSize)
	for range r.Count(countSize, api.MaxLog) {
		m.L = append(m.L, readEntry(r))
	}
	m.Data = r.Bytes(dataSize)
	return m, yes
}

// numbersOf is the numbers of a message in the order of its bytes.
func numbersOf(m api.Msg) [5]int64 {
	return [5]int64{m.Term, m.At, m.AtTerm, m.Commit, m.Round}
}

// lengthOf is how many bytes a message would have, whether or not it can be.
func lengthOf(m api.Msg) int {
	n := messageFrame + len(m.Data)
	for _, e := range m.L {
		n += entryFrame + len(e.Cmd)
	}
	return n
}

func canBeSent(m api.Msg) bool {
	for _, n := range []int{m.Kind, m.From, m.To} {
		if n < 0 || n > 255 {
			return false
		}
	}
	for _, n := range numbersOf(m) {
		if !isNumber(n) {
			return false
		}
	}
	for _, e := range m.L {
		if !canBe(e) {
			return false
		}
	}
	return true
}
