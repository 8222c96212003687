package cdb_test

import (
	"bytes"
	"encoding/binary"
	"math"
	"math/rand"
	"slices"
	"testing"

	"caisson/api"
	"caisson/cdb"
)

// ranges is n ranges.
func ranges(n int) []cdb.Range {
	var l []cdb.Range
	for i := range n {
		l = append(l, cdb.Range{Lba: uint64(i) << (i % 57), N: 3 * i})
	}
	return l
}

// rangeBytes is the data of an Unmap, whether or not they can be.
func rangeBytes(l []cdb.Range) []byte {
	b := binary.BigEndian.AppendUint16(nil, uint16(6+16*len(l)))
	b = binary.BigEndian.AppendUint16(b, uint16(16*len(l)))
	b = append(b, 0, 0, 0, 0)
	for _, x := range l {
		b = binary.BigEndian.AppendUint64(b, x.Lba)
		b = binary.BigEndian.AppendUint32(b, uint32(x.N))
		b = append(b, 0, 0, 0, 0)
	}
	return b
}

// rangesError is Ranges' error of b, by the plainest means.
func rangesError(b []byte) api.Errno {
	if len(b) < 8 {
		return api.ErrShort
	}
	first, second := int(b[0])<<8|int(b[1]), int(b[2])<<8|int(b[3])
	form := first != len(b)-2 || second != len(b)-8 || second%16 != 0
	for i, x := range b {
		if i >= 4 && i < 8 || i >= 8 && (i-8)%16 >= 12 {
			form = form || x != 0
		}
	}
	switch {
	case form:
		return api.ErrForm
	case second/16 > 32:
		return api.ErrSize
	}
	return api.OK
}

// sameRanges holds Ranges of b against the plain reading; what is read is written as b.
func sameRanges(t *testing.T, b []byte) api.Errno {
	t.Helper()
	was := slices.Clone(b)
	l, e := cdb.Ranges(b)
	if want := rangesError(b); e != want || e != api.OK && l != nil {
		t.Fatalf("Ranges of %d bytes: %v, not %v", len(b), e, want)
	}
	if !bytes.Equal(b, was) {
		t.Fatal("Ranges has changed its bytes")
	}
	if e == api.OK {
		if !bytes.Equal(rangeBytes(l), b) {
			t.Fatalf("Ranges of % x: %v", b, l)
		}
		if back, e := cdb.PutRanges(l); e != api.OK || !bytes.Equal(back, b) {
			t.Fatalf("PutRanges of %v: % x %v", l, back, e)
		}
	}
	return e
}

// P15.3: ranges, byte by byte.
func TestRangesByteByByte(t *testing.T) {
	l := []cdb.Range{{Lba: 0xff02030405060708, N: 0xfe0a0b0c}, {Lba: 7, N: 2}}
	want := []byte{0, 38, 0, 32, 0, 0, 0, 0,
		0xff, 2, 3, 4, 5, 6, 7, 8, 0xfe, 10, 11, 12, 0, 0, 0, 0,
		0, 0, 0, 0, 0, 0, 0, 7, 0, 0, 0, 2, 0, 0, 0, 0}
	if b, e := cdb.PutRanges(l); e != api.OK || !bytes.Equal(b, want) {
		t.Errorf("PutRanges: % x %v", b, e)
	}
	if got, e := cdb.Ranges(want); e != api.OK || !slices.Equal(got, l) {
		t.Error("Ranges", got, e)
	}
	none := []byte{0, 6, 0, 0, 0, 0, 0, 0}
	for _, l := range [][]cdb.Range{nil, {}} {
		if b, e := cdb.PutRanges(l); e != api.OK || !bytes.Equal(b, none) {
			t.Errorf("PutRanges of none: % x %v", b, e)
		}
	}
	if got, e := cdb.Ranges(none); e != api.OK || len(got) != 0 {
		t.Error("Ranges of none", got, e)
	}
}

// P15.3, P15.4: as many ranges as can be, and more.
func TestHowManyRanges(t *testing.T) {
	for _, n := range []int{0, 1, 2, 16, 31, 32, 33, 34, 64, 256, 4094, 4095} {
		l := ranges(n)
		b := rangeBytes(l)
		want := api.OK
		if n > 32 {
			want = api.ErrSize
		}
		if e := sameRanges(t, b); e != want {
			t.Error(n, "read:", e)
		}
		got, e := cdb.PutRanges(l)
		if e != want || e == api.OK && !bytes.Equal(got, b) || e != api.OK && got != nil {
			t.Error(n, "put:", e)
		}
		if n > 32 { // that a 0 is not, or a length is wrong, is told ahead of how many there are
			for _, at := range []int{0, 1, 2, 3, 4, 7, 20, len(b) - 1} {
				worse := slices.Clone(b)
				worse[at] ^= 1
				if e := sameRanges(t, worse); e != api.ErrForm {
					t.Error(n, at, e)
				}
			}
		}
	}
	for _, n := range []int{4096, 8192, 8193, 100000} { // the lengths go round: more than they can say
		if e := sameRanges(t, rangeBytes(make([]cdb.Range, n))); e != api.ErrForm {
			t.Error(n, e)
		}
		if b, e := cdb.PutRanges(make([]cdb.Range, n)); e != api.ErrSize || b != nil {
			t.Error(n, e)
		}
	}
}

// P15.3: numbers of blocks that go into four bytes, and others.
func TestRangesBounds(t *testing.T) {
	for _, n := range []int{math.MinInt, math.MinInt + 1, -1 << 32, -1 << 31, -1<<31 + 1, -2, -1, 0, 1, 255, 1<<31 - 1, 1 << 31, 1<<32 - 2, 1<<32 - 1, 1 << 32, 1<<32 + 1, 1 << 62, math.MaxInt} {
		for _, l := range [][]cdb.Range{{{Lba: 1, N: n}}, {{Lba: 1, N: 1}, {Lba: math.MaxUint64, N: n}}, {{N: n}, {N: 1}, {N: 2}}} {
			b, e := cdb.PutRanges(l)
			if n < 0 || n >= 1<<32 {
				if e != api.ErrSize || b != nil {
					t.Error(n, e)
				}
				continue
			}
			if got, e := cdb.Ranges(b); e != api.OK || !slices.Equal(got, l) {
				t.Error(n, got, e)
			}
		}
	}
}

// P15.3: cut at each place, longer, and with each length.
func TestRangesOfOtherLengths(t *testing.T) {
	b := rangeBytes(ranges(3))
	for n := range b {
		want := api.ErrForm
		if n < 8 {
			want = api.ErrShort
		}
		if e := sameRanges(t, b[:n]); e != want {
			t.Error("cut to", n, e)
		}
	}
	for _, more := range []int{1, 4, 15, 16, 17, 32, 1000, 65536, 1 << 20} {
		if e := sameRanges(t, append(slices.Clone(b), make([]byte, more)...)); e != api.ErrForm {
			t.Error("longer by", more, e)
		}
	}
	sameRanges(t, nil)
	for n := range 600 { // right lengths of what need not be whole ranges
		b := make([]byte, 8+n)
		binary.BigEndian.PutUint16(b, uint16(n+6))
		binary.BigEndian.PutUint16(b[2:], uint16(n))
		want := api.ErrForm
		if n%16 == 0 && n <= 32*16 {
			want = api.OK
		} else if n%16 == 0 {
			want = api.ErrSize
		}
		if e := sameRanges(t, b); e != want {
			t.Error(n, e)
		}
	}
	for x := range 65536 { // each other length that could be said
		for at, right := range map[int]int{0: 54, 2: 48} {
			b := rangeBytes(ranges(3))
			binary.BigEndian.PutUint16(b[at:], uint16(x))
			if e := rangesErrorOf(b); (e == api.OK) != (x == right) || e != api.OK && e != api.ErrForm {
				t.Fatal(at, x, e)
			}
		}
	}
}

func rangesErrorOf(b []byte) api.Errno {
	_, e := cdb.Ranges(b)
	return e
}

// P15.3, P15.4: each byte changed to each value is other ranges, or is refused.
func TestRangesOfChangedBytes(t *testing.T) {
	b := rangeBytes([]cdb.Range{{Lba: 0x0102030405060708, N: 0x090a0b0c}, {Lba: 1, N: 2}})
	l, _ := cdb.Ranges(b)
	for i := range b {
		was := b[i]
		for x := range 256 {
			b[i] = byte(x)
			e := sameRanges(t, b)
			if got, _ := cdb.Ranges(b); b[i] != was && e == api.OK && slices.Equal(got, l) {
				t.Error(i, x)
			}
			named := i >= 8 && (i-8)%16 < 12
			if b[i] != was && (e == api.OK) != named {
				t.Error(i, x, e)
			}
		}
		b[i] = was
	}
}

// P15.4: ranges at random, there and back, whole and spoilt.
func TestRangesAtRandom(t *testing.T) {
	rnd := rand.New(rand.NewSource(5))
	errors := map[api.Errno]int{}
	for range 20000 {
		var l []cdb.Range
		for range rnd.Intn(40) {
			l = append(l, cdb.Range{Lba: rnd.Uint64(), N: int(rnd.Uint32())})
		}
		b := rangeBytes(l)
		if len(l) <= 32 {
			if got, e := cdb.PutRanges(l); e != api.OK || !bytes.Equal(got, b) {
				t.Fatal("PutRanges", e)
			}
		}
		for range rnd.Intn(2) {
			b[rnd.Intn(len(b))] = byte(rnd.Intn(3))
		}
		if rnd.Intn(4) == 0 {
			b = b[:rnd.Intn(len(b))]
		}
		errors[sameRanges(t, b)]++
	}
	for _, e := range []api.Errno{api.OK, api.ErrShort, api.ErrForm, api.ErrSize} {
		if errors[e] < 100 {
			t.Error("too few", e, errors[e])
		}
	}
}

// P15.3, P15.4: keys, byte by byte, there and back.
func TestKeysByteByByte(t *testing.T) {
	want := []byte{0xff, 2, 3, 4, 5, 6, 7, 8, 0xfe, 10, 11, 12, 13, 14, 15, 16, 0, 0, 0, 0, 0, 0, 0, 0}
	if b := cdb.PutKeys(0xff02030405060708, 0xfe0a0b0c0d0e0f10); !bytes.Equal(b, want) {
		t.Errorf("PutKeys: % x", b)
	}
	if key, next, e := cdb.Keys(want); e != api.OK || key != 0xff02030405060708 || next != 0xfe0a0b0c0d0e0f10 {
		t.Error("Keys", key, next, e)
	}
	rnd := rand.New(rand.NewSource(6))
	pairs := [][2]uint64{{}, {1, 0}, {0, 1}, {1 << 63, 1<<63 - 1}, {math.MaxUint64, 0}, {0, math.MaxUint64}, {math.MaxUint64, math.MaxUint64}}
	for range 1000 {
		pairs = append(pairs, [2]uint64{rnd.Uint64(), rnd.Uint64() >> rnd.Intn(64)})
	}
	for _, p := range pairs {
		b := cdb.PutKeys(p[0], p[1])
		if key, next, e := cdb.Keys(b); len(b) != 24 || e != api.OK || key != p[0] || next != p[1] {
			t.Error(p, key, next, e)
		}
	}
}

// P15.3: keys of too few bytes, too many, and where a 0 is not.
func TestKeysRefuses(t *testing.T) {
	refused := func(b []byte, want api.Errno) {
		t.Helper()
		if key, next, e := cdb.Keys(b); key != 0 || next != 0 || e != want {
			t.Errorf("%d bytes: %d %d %v", len(b), key, next, e)
		}
	}
	b := cdb.PutKeys(5, 6)
	for n := range 24 {
		refused(b[:n], api.ErrShort)
		refused(bytes.Repeat([]byte{255}, n), api.ErrShort)
	}
	refused(nil, api.ErrShort)
	for _, more := range []int{1, 2, 8, 24, 1000, 65536, 1 << 20} {
		refused(append(slices.Clone(b), make([]byte, more)...), api.ErrForm)
		refused(bytes.Repeat([]byte{1}, 24+more), api.ErrForm)
	}
	for i := range b {
		was := b[i]
		for x := range 256 {
			b[i] = byte(x)
			key, next, e := cdb.Keys(b)
			switch {
			case b[i] == was:
			case i >= 16:
				refused(b, api.ErrForm)
			case e != api.OK || key == 5 && next == 6 || !bytes.Equal(cdb.PutKeys(key, next), b):
				t.Error(i, x, key, next, e)
			}
		}
		b[i] = was
	}
}

// Rules 4 and 5: no answer shares memory with what was handed in, or with another answer.
func TestDataSharesNothing(t *testing.T) {
	l := ranges(3)
	b, _ := cdb.PutRanges(l)
	want := slices.Clone(b)
	clear(l)
	if !bytes.Equal(b, want) {
		t.Error("PutRanges keeps its list")
	}
	one, _ := cdb.Ranges(b)
	two, _ := cdb.Ranges(b)
	clear(b)
	clear(one)
	_ = append(one, cdb.Range{Lba: 9, N: 9})
	if again, e := cdb.PutRanges(two); e != api.OK || !bytes.Equal(again, want) {
		t.Error("Ranges", two)
	}
	keys := cdb.PutKeys(1, 2)
	other := cdb.PutKeys(1, 2)
	clear(keys)
	if key, next, e := cdb.Keys(other); key != 1 || next != 2 || e != api.OK {
		t.Error("PutKeys", key, next, e)
	}
}
