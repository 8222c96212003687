package field_test

import (
	"bytes"
	"math"
	"math/rand"
	"testing"

	"caisson/api"
	"caisson/field"
)

// P2.4: numbers as a Writer writes them, and at their bounds.
func TestWriterNum(t *testing.T) {
	for _, c := range []struct {
		size int
		n    int64
		want []byte
	}{
		{1, 0, []byte{0}}, {1, 255, []byte{255}}, {1, -1, []byte{255}}, {1, -128, []byte{128}},
		{2, 258, []byte{1, 2}}, {2, -2, []byte{255, 254}}, {2, 65535, []byte{255, 255}}, {2, -32768, []byte{128, 0}},
		{4, 1<<32 - 1, []byte{255, 255, 255, 255}}, {4, math.MinInt32, []byte{128, 0, 0, 0}},
		{7, 1<<56 - 1, bytes.Repeat([]byte{255}, 7)}, {7, -1 << 55, []byte{128, 0, 0, 0, 0, 0, 0}},
		{8, math.MaxInt64, []byte{127, 255, 255, 255, 255, 255, 255, 255}}, {8, math.MinInt64, []byte{128, 0, 0, 0, 0, 0, 0, 0}}, {8, -1, bytes.Repeat([]byte{255}, 8)},
	} {
		w := field.NewWriter()
		w.Num(c.size, c.n)
		if got, e := w.End(); e != api.OK || !bytes.Equal(got, c.want) {
			t.Errorf("Num(%d, %d): %x %v, not %x", c.size, c.n, got, e, c.want)
		}
	}
}

// P2.4, P1: what a Writer does not take.
func TestWriterRefuses(t *testing.T) {
	refused := func(what string, want api.Errno, do func(*field.Writer)) {
		w := field.NewWriter()
		w.Num(1, 7)
		do(w)
		if got, e := w.End(); len(got) != 0 || e != want {
			t.Errorf("%s: %x %v, not %v", what, got, e, want)
		}
	}
	for _, size := range []int{0, -1, 9, math.MaxInt, math.MinInt} {
		for _, n := range []int64{0, math.MaxInt64, math.MinInt64} {
			refused("a width that is none", api.ErrArg, func(w *field.Writer) { w.Num(size, n) })
		}
	}
	for size := 1; size <= 7; size++ {
		for _, n := range []int64{1 << (8 * size), -(1 << (8*size - 1)) - 1, math.MaxInt64, math.MinInt64} {
			refused("a number that does not go in", api.ErrSize, func(w *field.Writer) { w.Num(size, n) })
		}
	}
	for _, size := range []int{0, 3, 8, -1, math.MaxInt} {
		refused("a length's width that is none", api.ErrArg, func(w *field.Writer) { w.Bytes(size, make([]byte, api.MaxBytes+1)) })
	}
	refused("a length above a byte", api.ErrSize, func(w *field.Writer) { w.Bytes(1, make([]byte, 256)) })
	refused("a length above two bytes", api.ErrSize, func(w *field.Writer) { w.Bytes(2, make([]byte, 65536)) })
	refused("a length above MaxBytes", api.ErrSize, func(w *field.Writer) { w.Bytes(4, make([]byte, 65537)) })
}

// P2.4: the first error of a Writer stays.
func TestWriterKeepsItsFirstError(t *testing.T) {
	w := field.NewWriter()
	w.Num(1, 7)
	w.Num(1, 256)
	w.Num(9, 0)
	w.Num(1, 8)
	w.Bytes(3, nil)
	w.Bytes(1, []byte("ab"))
	for range 2 {
		if got, e := w.End(); len(got) != 0 || e != api.ErrSize {
			t.Errorf("End: %x %v", got, e)
		}
	}
	w = field.NewWriter()
	w.Bytes(3, nil)
	w.Num(1, 256)
	w.Bytes(1, make([]byte, 256))
	if got, e := w.End(); len(got) != 0 || e != api.ErrArg {
		t.Errorf("End: %x %v", got, e)
	}
}

// P2.4: an empty Writer, and one that goes on behind End.
func TestWriterEnd(t *testing.T) {
	w := field.NewWriter()
	if got, e := w.End(); len(got) != 0 || e != api.OK {
		t.Errorf("End of nothing: %x %v", got, e)
	}
	w.Num(2, -2)
	p := []byte("ab")
	w.Bytes(1, p)
	scribble(p)
	first, e := w.End()
	if e != api.OK || string(first) != "\xff\xfe\x02ab" {
		t.Errorf("End: %x %v", first, e)
	}
	scribble(first)
	w.Num(1, 9)
	second, e := w.End()
	if e != api.OK || string(second) != "\xff\xfe\x02ab\x09" {
		t.Errorf("End behind a write into what it answered: %x %v", second, e)
	}
	_ = append(second, 1, 2, 3)
	w.Bytes(4, nil)
	w.Bytes(2, []byte("c"))
	if third, e := w.End(); e != api.OK || string(third) != "\xff\xfe\x02ab\x09\x00\x00\x00\x00\x00\x01c" {
		t.Errorf("End: %x %v", third, e)
	}
}

// P2.4: numbers as a Reader reads them: from 0 on, of 8 bytes from -2^63 on.
func TestReaderNum(t *testing.T) {
	all := bytes.Repeat([]byte{255}, 8)
	for size := 1; size <= 8; size++ {
		want := int64(most(size))
		r := field.NewReader(all[:size])
		if got := r.Num(size); got != want || r.End() != api.OK {
			t.Errorf("Num(%d) = %d %v, not %d", size, got, r.End(), want)
		}
	}
	r := field.NewReader([]byte{1, 2, 3, 128, 0, 0, 0, 0, 0, 0, 0})
	if r.Num(1) != 1 || r.Num(2) != 515 || r.Num(8) != math.MinInt64 || r.End() != api.OK {
		t.Error("numbers behind each other", r.End())
	}
}

// zeroes tells whether all that a Reader answers is 0 or none.
func zeroes(r *field.Reader) bool {
	return r.Num(1) == 0 && len(r.Bytes(1)) == 0 && r.Count(1, 100) == 0 && r.Num(8) == 0
}

// P2.4, P1: what a Reader does not take; then all answer zeroes, and the error stays.
func TestReaderRefuses(t *testing.T) {
	num := func(size int) func(*field.Reader) bool {
		return func(r *field.Reader) bool { return r.Num(size) == 0 }
	}
	take := func(size int) func(*field.Reader) bool {
		return func(r *field.Reader) bool { return len(r.Bytes(size)) == 0 }
	}
	count := func(size, most int) func(*field.Reader) bool {
		return func(r *field.Reader) bool { return r.Count(size, most) == 0 }
	}
	below := append([]byte{255}, make([]byte, 20)...)
	for i, c := range []struct {
		b    []byte
		do   func(*field.Reader) bool
		want api.Errno
	}{
		{[]byte{1, 2, 3}, num(0), api.ErrArg}, {[]byte{1, 2, 3}, num(-1), api.ErrArg}, {make([]byte, 20), num(9), api.ErrArg}, {nil, num(math.MaxInt), api.ErrArg}, {nil, num(math.MinInt), api.ErrArg},
		{nil, num(1), api.ErrShort}, {[]byte{1, 2, 3}, num(4), api.ErrShort}, {[]byte{1, 2, 3, 4, 5, 6, 7}, num(8), api.ErrShort},
		{[]byte{0, 0, 0, 0}, take(3), api.ErrArg}, {nil, take(0), api.ErrArg}, {nil, take(8), api.ErrArg}, {nil, take(math.MinInt), api.ErrArg},
		{nil, take(1), api.ErrShort}, {[]byte{0, 0, 0}, take(4), api.ErrShort}, {[]byte{3, 1, 2}, take(1), api.ErrShort},
		{[]byte{0, 1, 0, 1, 9}, take(4), api.ErrSize}, {[]byte{255, 255, 255, 255}, take(4), api.ErrSize},
		{[]byte{1, 2, 3}, count(0, 5), api.ErrArg}, {[]byte{1, 2, 3}, count(9, -1), api.ErrArg}, {[]byte{1}, count(2, -1), api.ErrShort},
		{[]byte{3, 1, 2, 3}, count(1, 2), api.ErrSize}, {[]byte{3}, count(1, 2), api.ErrSize}, {[]byte{0}, count(1, -1), api.ErrSize}, {[]byte{5, 5}, count(1, math.MinInt), api.ErrSize},
		{below, count(8, math.MaxInt), api.ErrSize}, {bytes.Repeat([]byte{255}, 30), count(8, math.MaxInt), api.ErrSize},
		{[]byte{3, 1, 2}, count(1, 3), api.ErrShort}, {[]byte{1}, count(1, 1), api.ErrShort}, {[]byte{127, 255, 255, 255, 255, 255, 255, 255, 0}, count(8, math.MaxInt), api.ErrShort},
	} {
		r := field.NewReader(c.b)
		if !c.do(r) || r.End() != c.want {
			t.Errorf("case %d: %v, not %v", i, r.End(), c.want)
		}
		if !zeroes(r) || r.Bytes(3) != nil || r.Num(0) != 0 || r.End() != c.want {
			t.Errorf("case %d: it goes on behind an error, %v", i, r.End())
		}
	}
}

// P2.4: Count, up to its bounds.
func TestReaderCount(t *testing.T) {
	r := field.NewReader([]byte{0, 2, 7, 8})
	if r.Count(1, 0) != 0 || r.Count(1, 2) != 2 || r.Num(1) != 7 || r.Num(1) != 8 || r.End() != api.OK {
		t.Error("Count", r.End())
	}
	r = field.NewReader([]byte{0, 0, 0, 0, 0, 0, 0, 1, 9})
	if r.Count(8, math.MaxInt) != 1 || r.End() != api.ErrForm {
		t.Error("Count of 8 bytes", r.End())
	}
}

// P2.4: End tells of bytes that are left, and they can still be read.
func TestReaderEnd(t *testing.T) {
	if field.NewReader(nil).End() != api.OK || field.NewReader([]byte{}).End() != api.OK {
		t.Error("End of nothing")
	}
	r := field.NewReader([]byte{7, 1, 'a'})
	if r.End() != api.ErrForm || r.Num(1) != 7 || r.End() != api.ErrForm || string(r.Bytes(1)) != "a" || r.End() != api.OK || r.End() != api.OK {
		t.Error("End", r.End())
	}
	if r.Num(1) != 0 || r.End() != api.ErrShort {
		t.Error("End behind the end", r.End())
	}
}

// A Reader keeps a copy, and its answers share memory with nothing.
func TestReaderSharesNothing(t *testing.T) {
	b := []byte{2, 'a', 'b', 1, 'c'}
	r := field.NewReader(b)
	scribble(b)
	first := r.Bytes(1)
	if string(first) != "ab" {
		t.Errorf("Bytes: %x", first)
	}
	scribble(first)
	if second := r.Bytes(1); string(second) != "c" || r.End() != api.OK {
		t.Errorf("Bytes behind a write into another one: %x", second)
	}
	b = []byte{2, 'a', 'b'}
	r = field.NewReader(b)
	scribble(r.Bytes(1))
	if string(b) != "\x02ab" {
		t.Errorf("a Reader wrote into what it reads: %x", b)
	}
}

// P2.4, P1: nil objects.
func TestNilWriterAndReader(t *testing.T) {
	var w *field.Writer
	w.Num(1, 1)
	w.Num(99, 1)
	w.Bytes(1, []byte("a"))
	if got, e := w.End(); len(got) != 0 || e != api.ErrNil {
		t.Errorf("End of a nil Writer: %x %v", got, e)
	}
	var r *field.Reader
	if !zeroes(r) || r.Num(99) != 0 || r.Count(0, -1) != 0 || r.Bytes(3) != nil || r.End() != api.ErrNil {
		t.Error("a nil Reader", r.End())
	}
}

// write writes fields by a plan: of each byte of it a field, a number or a text.
func write(plan []byte, nums []int64, texts [][]byte) ([]byte, api.Errno) {
	w := field.NewWriter()
	for i, c := range plan {
		if c < 8 {
			w.Num(int(c)+1, nums[i])
		} else {
			w.Bytes(1<<(c-8), texts[i])
		}
	}
	return w.End()
}

// P2.5, P7: a Reader behind a Writer.
func TestReaderBehindWriter(t *testing.T) {
	r := rand.New(rand.NewSource(4))
	for range 500 {
		plan := noise(r, r.Intn(12))
		nums, texts := make([]int64, len(plan)), make([][]byte, len(plan))
		for i := range plan {
			plan[i] %= 11
			if plan[i] < 8 {
				nums[i] = int64(r.Uint64() & most(int(plan[i])+1))
			}
			texts[i] = noise(r, r.Intn(30))
		}
		b, e := write(plan, nums, texts)
		if e != api.OK {
			t.Fatalf("plan %v: %v", plan, e)
		}
		back := field.NewReader(b)
		for i, c := range plan {
			if c < 8 {
				if n := back.Num(int(c) + 1); n != nums[i] {
					t.Fatalf("plan %v: number %d is %d, not %d", plan, i, n, nums[i])
				}
			} else if p := back.Bytes(1 << (c - 8)); !bytes.Equal(p, texts[i]) {
				t.Fatalf("plan %v: text %d is %x, not %x", plan, i, p, texts[i])
			}
		}
		if e := back.End(); e != api.OK {
			t.Fatalf("plan %v: End %v", plan, e)
		}
	}
}
