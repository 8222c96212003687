package field_test

import (
	"bytes"
	"math"
	"math/rand"
	"testing"

	"caisson/api"
	"caisson/field"
)

func noise(r *rand.Rand, n int) []byte {
	b := make([]byte, n)
	r.Read(b)
	return b
}

// most is the greatest number of size bytes.
func most(size int) uint64 {
	if size == 8 {
		return math.MaxUint64
	}
	return 1<<(8*size) - 1
}

// P2.1: the document's examples, and numbers of all widths.
func TestPutOfKnownNumbers(t *testing.T) {
	for _, c := range []struct {
		b        []byte
		at, size int
		n        uint64
		want     []byte
	}{
		{make([]byte, 3), 1, 2, 258, []byte{0, 1, 2}},
		{[]byte{9, 8, 7}, 0, 1, 255, []byte{255, 8, 7}},
		{[]byte{9, 8, 7}, 2, 1, 0, []byte{9, 8, 0}},
		{[]byte{9, 8, 7}, 0, 3, 0x010203, []byte{1, 2, 3}},
		{make([]byte, 8), 0, 8, 0x0102030405060708, []byte{1, 2, 3, 4, 5, 6, 7, 8}},
		{make([]byte, 8), 0, 8, math.MaxUint64, bytes.Repeat([]byte{255}, 8)},
		{make([]byte, 8), 1, 7, 1<<56 - 1, []byte{0, 255, 255, 255, 255, 255, 255, 255}},
	} {
		got, e := field.Put(c.b, c.at, c.size, c.n)
		if e != api.OK || !bytes.Equal(got, c.want) {
			t.Errorf("Put(%x, %d, %d, %x) = %x %v, not %x", c.b, c.at, c.size, c.n, got, e, c.want)
		}
		if n, e := field.Get(c.want, c.at, c.size); n != c.n || e != api.OK {
			t.Errorf("Get(%x, %d, %d) = %x %v, not %x", c.want, c.at, c.size, n, e, c.n)
		}
	}
}

// P2.1, P1: places and widths out of their bounds, ahead of a number that is too great.
func TestPutAndGetRefuse(t *testing.T) {
	ten := make([]byte, 10)
	for _, c := range []struct {
		b        []byte
		at, size int
	}{
		{ten, 0, 0}, {ten, 0, -1}, {ten, 0, 9}, {ten, 0, math.MaxInt}, {ten, 0, math.MinInt},
		{ten, -1, 1}, {ten, 10, 1}, {ten, 3, 8}, {ten, 9, 2}, {ten, 11, 1},
		{ten, math.MaxInt, 8}, {ten, math.MaxInt, 1}, {ten, math.MinInt, 8}, {ten, math.MaxInt, math.MaxInt}, {ten, math.MinInt, math.MinInt},
		{nil, 0, 1}, {nil, 0, 0}, {nil, -1, 1}, {[]byte{1}, 0, 2}, {[]byte{1}, -1, 2},
	} {
		for _, n := range []uint64{0, math.MaxUint64} {
			if got, e := field.Put(c.b, c.at, c.size, n); len(got) != 0 || e != api.ErrArg {
				t.Errorf("Put(%x, %d, %d, %x) = %x %v", c.b, c.at, c.size, n, got, e)
			}
		}
		if n, e := field.Get(c.b, c.at, c.size); n != 0 || e != api.ErrArg {
			t.Errorf("Get(%x, %d, %d) = %x %v", c.b, c.at, c.size, n, e)
		}
	}
	for size := 1; size <= 7; size++ {
		for _, n := range []uint64{most(size) + 1, math.MaxUint64} {
			if got, e := field.Put(ten, 10-size, size, n); len(got) != 0 || e != api.ErrSize {
				t.Errorf("Put of %x in %d bytes: %x %v", n, size, got, e)
			}
		}
	}
}

// P2.5, P7: Get behind Put is the number, and no other byte has changed.
func TestGetBehindPut(t *testing.T) {
	r := rand.New(rand.NewSource(1))
	for size := 1; size <= 8; size++ {
		for at := 0; at+size <= 12; at++ {
			for _, n := range []uint64{0, 1, most(size), most(size) - 1, r.Uint64() & most(size)} {
				b := noise(r, 12)
				before := bytes.Clone(b)
				got, e := field.Put(b, at, size, n)
				if e != api.OK || len(got) != 12 || !bytes.Equal(b, before) {
					t.Fatalf("Put(%x, %d, %d, %x) = %x %v", before, at, size, n, got, e)
				}
				if back, e := field.Get(got, at, size); back != n || e != api.OK {
					t.Errorf("Get behind Put: %x %v, not %x", back, e, n)
				}
				if !bytes.Equal(got[:at], b[:at]) || !bytes.Equal(got[at+size:], b[at+size:]) {
					t.Errorf("Put(%x, %d, %d) changed another byte: %x", b, at, size, got)
				}
			}
		}
	}
}

// P2.1, P2.5: Bits behind Set, of all bytes, places and numbers.
func TestBitsBehindSet(t *testing.T) {
	if c, e := field.Set(0xff, 2, 3, 1); c != 0xe7 || e != api.OK {
		t.Errorf("Set(ff, 2, 3, 1) = %x %v", c, e)
	}
	if n, e := field.Bits(0xe7, 2, 3); n != 1 || e != api.OK {
		t.Errorf("Bits(e7, 2, 3) = %d %v", n, e)
	}
	for c := range 256 {
		for low := range 8 {
			for size := 1; low+size <= 8; size++ {
				others := byte(c)
				for i := low; i < low+size; i++ {
					others &^= 1 << i
				}
				for n := range 1 << size {
					got, e := field.Set(byte(c), low, size, n)
					if e != api.OK || got != others+byte(n<<low) {
						t.Fatalf("Set(%x, %d, %d, %d) = %x %v", c, low, size, n, got, e)
					}
					if back, e := field.Bits(got, low, size); back != n || e != api.OK {
						t.Fatalf("Bits(%x, %d, %d) = %d %v", got, low, size, back, e)
					}
				}
			}
		}
	}
}

// P2.1, P1: bits that are not there, ahead of a number that is too great.
func TestSetAndBitsRefuse(t *testing.T) {
	for _, c := range [][2]int{
		{-1, 1}, {0, 0}, {0, 9}, {1, 8}, {8, 1}, {7, 2}, {8, 0}, {0, -1}, {-1, 9}, {9, -1}, {-1, 0},
		{math.MaxInt, 1}, {math.MaxInt, math.MaxInt}, {1, math.MaxInt}, {math.MinInt, math.MaxInt}, {math.MinInt, 1}, {0, math.MinInt}, {math.MaxInt, math.MinInt},
	} {
		for _, n := range []int{0, -1, 1000} {
			if got, e := field.Set(0xa5, c[0], c[1], n); got != 0 || e != api.ErrArg {
				t.Errorf("Set(a5, %d, %d, %d) = %x %v", c[0], c[1], n, got, e)
			}
		}
		if n, e := field.Bits(0xa5, c[0], c[1]); n != 0 || e != api.ErrArg {
			t.Errorf("Bits(a5, %d, %d) = %d %v", c[0], c[1], n, e)
		}
	}
	for size := 1; size <= 8; size++ {
		for _, n := range []int{-1, 1 << size, math.MinInt, math.MaxInt} {
			if got, e := field.Set(0xa5, 8-size, size, n); got != 0 || e != api.ErrSize {
				t.Errorf("Set(a5, %d, %d, %d) = %x %v", 8-size, size, n, got, e)
			}
		}
	}
}

// P2.2: Add.
func TestAdd(t *testing.T) {
	long := bytes.Repeat([]byte{7}, api.MaxBytes)
	for _, c := range []struct {
		b    []byte
		size int
		p    []byte
		want []byte
	}{
		{nil, 1, nil, []byte{0}},
		{nil, 2, []byte{}, []byte{0, 0}},
		{[]byte{9}, 4, nil, []byte{9, 0, 0, 0, 0}},
		{[]byte{9, 8}, 1, []byte("ab"), []byte{9, 8, 2, 'a', 'b'}},
		{nil, 2, []byte("ab"), []byte{0, 2, 'a', 'b'}},
		{nil, 4, []byte("ab"), []byte{0, 0, 0, 2, 'a', 'b'}},
		{nil, 1, long[:255], append([]byte{255}, long[:255]...)},
		{nil, 2, long[:258], append([]byte{1, 2}, long[:258]...)},
		{nil, 2, long[:65535], append([]byte{255, 255}, long[:65535]...)},
		{nil, 4, long, append([]byte{0, 1, 0, 0}, long...)},
	} {
		got, e := field.Add(c.b, c.size, c.p)
		if e != api.OK || !bytes.Equal(got, c.want) {
			t.Errorf("Add of %d bytes with a length of %d: %d bytes, %v", len(c.p), c.size, len(got), e)
		}
	}
}

// P2.2, P1: what Add does not take.
func TestAddRefuses(t *testing.T) {
	b := []byte("beginning")
	tooLong := make([]byte, api.MaxBytes+1)
	for _, size := range []int{0, 3, 5, 6, 7, 8, -1, -4, math.MaxInt, math.MinInt} {
		for _, p := range [][]byte{nil, []byte("ab"), tooLong} {
			if got, e := field.Add(b, size, p); len(got) != 0 || e != api.ErrArg {
				t.Errorf("Add with a length of %d: %x %v", size, got, e)
			}
		}
	}
	for _, c := range []struct{ size, length int }{{1, 256}, {1, 257}, {1, api.MaxBytes}, {2, api.MaxBytes}, {1, api.MaxBytes + 1}, {2, api.MaxBytes + 1}, {4, api.MaxBytes + 1}} {
		if got, e := field.Add(b, c.size, tooLong[:c.length]); len(got) != 0 || e != api.ErrSize {
			t.Errorf("Add of %d bytes with a length of %d: %v", c.length, c.size, e)
		}
	}
}

// P2.2, P2.5, P7: Cut behind Add.
func TestCutBehindAdd(t *testing.T) {
	r := rand.New(rand.NewSource(2))
	for _, size := range []int{1, 2, 4} {
		for _, length := range []int{0, 1, 2, 255, 256, 4096, 65535, 65536} {
			if uint64(length) > most(size) {
				continue
			}
			p, behind := noise(r, length), noise(r, r.Intn(5))
			b, e := field.Add(nil, size, p)
			if e != api.OK {
				t.Fatalf("Add of %d bytes with a length of %d: %v", length, size, e)
			}
			got, left, e := field.Cut(append(b, behind...), size)
			if e != api.OK || !bytes.Equal(got, p) || !bytes.Equal(left, behind) {
				t.Errorf("Cut of %d bytes with a length of %d: %d bytes, %x left, %v", length, size, len(got), left, e)
			}
		}
	}
}

// P2.2, P1: what Cut does not take, each error in its turn.
func TestCutRefuses(t *testing.T) {
	for _, c := range []struct {
		b    []byte
		size int
		want api.Errno
	}{
		{nil, 0, api.ErrArg}, {nil, 3, api.ErrArg}, {[]byte{0, 0, 0, 0}, 3, api.ErrArg}, {make([]byte, 20), 8, api.ErrArg}, {nil, -1, api.ErrArg},
		{nil, math.MaxInt, api.ErrArg}, {nil, math.MinInt, api.ErrArg}, {[]byte{1, 2}, 5, api.ErrArg},
		{nil, 1, api.ErrShort}, {[]byte{0}, 2, api.ErrShort}, {[]byte{255, 255, 255}, 4, api.ErrShort},
		{[]byte{0, 1, 0, 1}, 4, api.ErrSize}, {[]byte{255, 255, 255, 255}, 4, api.ErrSize}, {[]byte{128, 0, 0, 0, 1}, 4, api.ErrSize},
		{append([]byte{0, 1, 0, 1}, make([]byte, 65537)...), 4, api.ErrSize},
		{[]byte{1}, 1, api.ErrShort}, {[]byte{3, 1, 2}, 1, api.ErrShort}, {[]byte{0, 1}, 2, api.ErrShort}, {[]byte{255, 255, 0}, 2, api.ErrShort},
		{append([]byte{0, 1, 0, 0}, make([]byte, 65535)...), 4, api.ErrShort},
	} {
		p, left, e := field.Cut(c.b, c.size)
		if e != c.want || len(p) != 0 || len(left) != 0 {
			t.Errorf("Cut(.. %d bytes, %d): %d and %d bytes, %v, not %v", len(c.b), c.size, len(p), len(left), e, c.want)
		}
	}
}

// scribble writes into a list and behind it, as far as its memory goes.
func scribble(b []byte) {
	b = b[:cap(b)]
	for i := range b {
		b[i] = 0xee
	}
}

// Nothing that is handed in is changed or kept, and no two answers share memory.
func TestAnswersAreNewMemory(t *testing.T) {
	room := append(make([]byte, 0, 64), 1, 2, 3)
	put, _ := field.Put(room, 0, 1, 9)
	add, _ := field.Add(room, 1, []byte{5})
	scribble(put)
	if !bytes.Equal(room[:8], []byte{1, 2, 3, 0, 0, 0, 0, 0}) || !bytes.Equal(add, []byte{1, 2, 3, 1, 5}) {
		t.Errorf("Put or Add shares: %x %x", room[:8], add)
	}
	scribble(add)
	if !bytes.Equal(room[:8], []byte{1, 2, 3, 0, 0, 0, 0, 0}) {
		t.Errorf("Add shares: %x", room[:8])
	}
	whole := []byte{2, 'a', 'b', 'c', 'd'}
	p, left, _ := field.Cut(whole, 1)
	scribble(p)
	if string(left) != "cd" || string(whole) != "\x02abcd" {
		t.Errorf("Cut shares: %x %x", whole, left)
	}
	scribble(left)
	if string(whole) != "\x02abcd" {
		t.Errorf("Cut shares: %x", whole)
	}
}
