package extent

import (
	"caisson/api"
	"caisson/field"
)

const (
	numberSize = 2 // bytes of Size, of Used and of a block's number
	wordSize   = 8 // bytes of a block that are read and written at once
)

// Bytes is the image as bytes: Size, Used, and each block that is there behind its number.
func (m *Image) Bytes() []byte {
	if m == nil {
		return nil
	}
	w := field.NewWriter()
	w.Num(numberSize, int64(m.size))
	w.Num(numberSize, int64(len(m.there)))
	for first, count := range m.Runs() {
		for lba := first; lba < first+count; lba++ {
			w.Num(numberSize, int64(lba))
			m.there[lba].write(w)
		}
	}
	b, _ := w.End() // no number of an image is too great for its field
	return b
}

// Load is the image that Bytes has written as b.
func Load(b []byte) (*Image, api.Errno) {
	r := field.NewReader(b)
	size, used := r.Num(numberSize), r.Num(numberSize)
	if isShort(r) {
		return nil, api.ErrShort
	}
	m, e := New(int(size))
	if e != api.OK {
		return nil, e
	}
	if e := m.load(r, used); e != api.OK {
		return nil, e
	}
	return m, api.OK
}

// load reads so many blocks, and nothing behind them.
func (m *Image) load(r *field.Reader, used int64) api.Errno {
	ahead := -1
	for range used {
		lba, b := int(r.Num(numberSize)), readBlock(r)
		if isShort(r) {
			return api.ErrShort
		}
		if lba >= m.size || lba <= ahead {
			return api.ErrForm
		}
		m.there[lba], ahead = b, lba
	}
	return r.End()
}

// isShort tells whether bytes were missing: of fields as they are read here a Reader has no other error, and of bytes that are left it tells ErrForm.
func isShort(r *field.Reader) bool { return r.End() == api.ErrShort }

// write writes the block word by word, as a Writer's own bytes have their length ahead.
func (b block) write(w *field.Writer) {
	for at := 0; at < api.Block; at += wordSize {
		n, _ := field.Get(b[:], at, wordSize)
		w.Num(wordSize, int64(n))
	}
}

func readBlock(r *field.Reader) block {
	var b block
	for at := 0; at < api.Block; at += wordSize {
		n := uint64(r.Num(wordSize))
		for i := range wordSize {
			b[at+i] = byte(n >> (8 * (wordSize - 1 - i)))
		}
	}
	return b
}
