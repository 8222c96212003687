package sense_test

import (
	"bytes"
	"math"
	"math/rand"
	"slices"
	"testing"

	"caisson/api"
	"caisson/sense"
)

// edges are numbers at the bounds of what is asked here, and beyond them.
var edges = []int{math.MinInt, math.MinInt + 1, -1 << 32, -256, -255, -1, 0, 1, 2, 14, 15, 16, 17, 127, 128, 254, 255, 256, 257, 65535, 65536, 1 << 32, 1<<32 + 5, math.MaxInt}

// senseBytes is a sense as bytes, whether or not it can be.
func senseBytes(key, asc, ascq byte) []byte {
	return []byte{0x70, 0, key, 0, 0, 0, 0, 10, 0, 0, 0, 0, asc, ascq, 0, 0, 0, 0}
}

// refused asks that Read answers that error of b, and nothing beside it.
func refused(t *testing.T, b []byte, want api.Errno) {
	t.Helper()
	if key, asc, ascq, e := sense.Read(b); e != want || key != 0 || asc != 0 || ascq != 0 {
		t.Errorf("Read of % x: %d %d %d %v, not %v", b, key, asc, ascq, e, want)
	}
}

// The states' numbers.
func TestNumbers(t *testing.T) {
	if sense.Active != 0 || sense.Standby != 2 || sense.Offline != 14 || sense.Changing != 15 {
		t.Error("states")
	}
}

// P16.1: the document's example, and others, byte by byte; status and data play no part.
func TestDataByteByByte(t *testing.T) {
	for _, x := range []struct {
		r    api.Reply
		want []byte
	}{
		{api.Reply{Key: 5, Asc: 0x21}, []byte{0x70, 0, 5, 0, 0, 0, 0, 0x0a, 0, 0, 0, 0, 0x21, 0, 0, 0, 0, 0}},
		{api.Reply{}, senseBytes(0, 0, 0)},
		{api.Reply{Status: api.Check, Key: 2, Asc: 4, Ascq: 11}, senseBytes(2, 4, 11)},
		{api.Reply{Status: -7, Key: 15, Asc: 255, Ascq: 254, Data: []byte{1, 2, 3}}, senseBytes(15, 255, 254)},
		{api.Reply{Status: math.MaxInt, Data: make([]byte, 100000)}, senseBytes(0, 0, 0)},
	} {
		if b, e := sense.Data(x.r); e != api.OK || !bytes.Equal(b, x.want) {
			t.Errorf("Data of %d %d %d: % x %v", x.r.Key, x.r.Asc, x.r.Ascq, b, e)
		}
	}
}

// P16.1: each number of a sense at its bounds and beyond them.
func TestDataBounds(t *testing.T) {
	for _, key := range edges {
		for _, asc := range edges {
			for _, ascq := range edges {
				can := key >= 0 && key <= 15 && asc >= 0 && asc <= 255 && ascq >= 0 && ascq <= 255
				b, e := sense.Data(api.Reply{Status: api.Check, Key: key, Asc: asc, Ascq: ascq})
				if can && (e != api.OK || !bytes.Equal(b, senseBytes(byte(key), byte(asc), byte(ascq)))) || !can && (e != api.ErrArg || b != nil) {
					t.Errorf("%d %d %d: % x %v", key, asc, ascq, b, e)
				}
			}
		}
	}
}

// P16.5 (P7): each sense there and back.
func TestReadBehindData(t *testing.T) {
	for key := range 16 {
		for asc := range 256 {
			for ascq := range 256 {
				b, _ := sense.Data(api.Reply{Key: key, Asc: asc, Ascq: ascq})
				if k, a, q, e := sense.Read(b); e != api.OK || k != key || a != asc || q != ascq {
					t.Fatal(key, asc, ascq, "are read as", k, a, q, e)
				}
			}
		}
	}
}

// P16.1: cut, longer, and with each byte changed to each value.
func TestReadRefuses(t *testing.T) {
	b := senseBytes(5, 0x21, 3)
	for n := range 18 {
		refused(t, b[:n], api.ErrShort)
		refused(t, make([]byte, n), api.ErrShort)
	}
	refused(t, nil, api.ErrShort)
	for _, more := range []int{1, 2, 18, 1000} {
		refused(t, append(slices.Clone(b), make([]byte, more)...), api.ErrForm)
	}
	refused(t, make([]byte, 18), api.ErrForm)
	for i := range b {
		was := b[i]
		for x := range 256 {
			b[i] = byte(x)
			switch {
			case b[i] == was:
			case i == 2 && x <= 15 || i == 12 || i == 13:
				if key, asc, ascq, e := sense.Read(b); e != api.OK || !bytes.Equal(senseBytes(byte(key), byte(asc), byte(ascq)), b) {
					t.Error(i, x, e)
				}
			default:
				refused(t, b, api.ErrForm)
			}
		}
		b[i] = was
	}
}

// P16.1: the first bytes, all of them, or none.
func TestCut(t *testing.T) {
	whole := []byte{1, 2, 3, 4, 5}
	for _, size := range []int{0, 1, 4, 5} {
		for _, n := range append([]int{3, 4, 5, 6}, edges...) {
			b := whole[:size]
			want := b
			if n < 1 {
				want = nil
			} else if n < size {
				want = b[:n]
			}
			if got := sense.Cut(b, n); !bytes.Equal(got, want) {
				t.Errorf("Cut(% x, %d): % x", b, n, got)
			}
		}
	}
	for _, n := range edges {
		if got := sense.Cut(nil, n); len(got) != 0 {
			t.Errorf("Cut(nil, %d): % x", n, got)
		}
	}
}

// Rules 4 and 5: what is cut is new memory, also if it is all.
func TestCutSharesNothing(t *testing.T) {
	for _, n := range []int{0, 1, 2, 3, 4, 100} {
		b := []byte{1, 2, 3}
		got := sense.Cut(b, n)
		want := slices.Clone(got)
		clear(b)
		if !bytes.Equal(got, want) {
			t.Error(n, "what is handed in is kept")
		}
		clear(got)
		got = append(got, 9, 9, 9)
		if !bytes.Equal(b, make([]byte, 3)) || len(got) != len(want)+3 {
			t.Error(n, "what is handed in is changed")
		}
	}
}

// Rules 4 to 6: all that is answered is new memory each time.
func TestAnswersAreNew(t *testing.T) {
	for i, f := range []func() ([]byte, api.Errno){
		func() ([]byte, api.Errno) { return sense.Data(api.Reply{Key: 5, Asc: 1}) },
		func() ([]byte, api.Errno) { return sense.Inquiry(false, 0, 1) },
		func() ([]byte, api.Errno) { return sense.Inquiry(true, 0, 1) },
		func() ([]byte, api.Errno) { return sense.Inquiry(true, 0x80, 1) },
		func() ([]byte, api.Errno) { return sense.Inquiry(true, 0x83, 1) },
		func() ([]byte, api.Errno) { return sense.Capacity(8) },
		func() ([]byte, api.Errno) { return sense.Luns(3) },
		func() ([]byte, api.Errno) { return sense.Ports([]int{0, 2, 14, 15}) },
		func() ([]byte, api.Errno) { return sense.Keys(1, []uint64{1, 2}) },
		func() ([]byte, api.Errno) { return sense.Holder(1, 2, 3) },
	} {
		one, e := f()
		two, _ := f()
		want := slices.Clone(one)
		clear(one)
		_ = append(one, bytes.Repeat([]byte{9}, 100)...)
		three, _ := f()
		if e != api.OK || len(want) == 0 || !bytes.Equal(two, want) || !bytes.Equal(three, want) {
			t.Errorf("%d: % x, % x, % x", i, want, two, three)
		}
	}
}

// Rule 1: whatever bytes are read, nothing panics, and what is read was written.
func TestReadsOfAnyBytes(t *testing.T) {
	rnd := rand.New(rand.NewSource(1))
	for range 30000 {
		b := make([]byte, rnd.Intn(40))
		for range rnd.Intn(4) {
			if len(b) > 0 {
				b[rnd.Intn(len(b))] = byte(rnd.Intn(256))
			}
		}
		if len(b) > 7 && rnd.Intn(2) == 0 {
			b[0], b[7] = 0x70, 10
		}
		was := slices.Clone(b)
		key, asc, ascq, e := sense.Read(b)
		if (e == api.OK) != (len(b) == 18 && key < 16 && bytes.Equal(senseBytes(byte(key), byte(asc), byte(ascq)), b)) {
			t.Fatalf("% x: %v", b, e)
		}
		sameStates(t, b)
		if !bytes.Equal(b, was) {
			t.Fatal("the bytes were changed")
		}
	}
}
