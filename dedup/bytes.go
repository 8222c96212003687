package dedup

import (
	"caisson/api"
	"caisson/field"
)

// How many bytes the numbers of answers and of tables have.
const (
	byteSize   = 1
	lengthSize = 2
	numberSize = 8 // a command's number, a floor
)

// mostBytes is how many bytes of a table are read.
const mostBytes = 16 * api.MaxBytes

// PutReply is the bytes of an answer.
func PutReply(r api.Reply) ([]byte, api.Errno) {
	numbers := [...]int{r.Status, r.Key, r.Asc, r.Ascq}
	for _, n := range numbers {
		if n < 0 || n > 255 {
			return nil, api.ErrArg
		}
	}
	if len(r.Data) > api.MaxData {
		return nil, api.ErrSize
	}
	w := field.NewWriter()
	for _, n := range numbers {
		w.Num(byteSize, int64(n))
	}
	w.Bytes(lengthSize, r.Data)
	return w.End()
}

// GetReply is the answer of these bytes.
func GetReply(b []byte) (api.Reply, api.Errno) {
	r := field.NewReader(b)
	var x api.Reply
	x.Status = int(r.Num(byteSize))
	x.Key = int(r.Num(byteSize))
	x.Asc = int(r.Num(byteSize))
	x.Ascq = int(r.Num(byteSize))
	x.Data = r.Bytes(lengthSize)
	if e := r.End(); e != api.OK {
		return api.Reply{}, e
	}
	if len(x.Data) > api.MaxData {
		return api.Reply{}, api.ErrSize
	}
	return x, api.OK
}

// Bytes is the table as bytes, nexus by nexus.
func (t *Table) Bytes() []byte {
	if t == nil {
		return nil
	}
	w := field.NewWriter()
	for _, m := range t.of {
		w.Num(byteSize, int64(m.answers.size()))
		w.Num(numberSize, m.floor)
		for _, a := range m.answers.rising {
			w.Num(numberSize, a.number())
			w.Bytes(lengthSize, []byte(a.bytes))
		}
	}
	b, _ := w.End() // no number of a table is too great for its field, and no answer too long
	return b
}

// Load is the table that Bytes has written as b.
func Load(b []byte) (*Table, api.Errno) {
	if len(b) > mostBytes {
		return nil, api.ErrSize
	}
	t, r := New(), field.NewReader(b)
	for nexus := range t.of {
		if e := t.of[nexus].load(r, nexus); e != api.OK {
			return nil, e
		}
	}
	if e := r.End(); e != api.OK {
		return nil, e
	}
	return t, api.OK
}

// load reads what is kept of a nexus. Whether bytes of its count and floor are missing is asked ahead of what these say, as that error is named first.
func (m *memory) load(r *field.Reader, nexus int) api.Errno {
	count, floor := r.Num(byteSize), r.Num(numberSize)
	if isShort(r) {
		return api.ErrShort
	}
	if count > api.MaxKept || floor < 0 || floor > highest {
		return api.ErrForm
	}
	m.floor = floor
	ahead := floor
	for range count {
		a, e := readAnswer(r, nexus, ahead)
		if e != api.OK {
			return e
		}
		m.answers.put(a)
		ahead = a.number()
	}
	return api.OK
}

// readAnswer reads an answer and its number, which must be above ahead. As of a nexus, whether bytes of either are missing is asked first.
func readAnswer(r *field.Reader, nexus int, ahead int64) (answer, api.Errno) {
	seq, b := r.Num(numberSize), r.Bytes(lengthSize)
	if isShort(r) {
		return answer{}, api.ErrShort
	}
	if seq <= ahead || seq > highest {
		return answer{}, api.ErrForm
	}
	if _, e := GetReply(b); e != api.OK {
		return answer{}, e
	}
	return answer{place{nexus, seq}, string(b)}, api.OK
}

// isShort tells whether bytes were missing: of fields as they are read here a Reader has no other error, and of bytes that are left it tells ErrForm.
func isShort(r *field.Reader) bool { return r.End() == api.ErrShort }
