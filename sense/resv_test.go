package sense_test

import (
	"bytes"
	"encoding/binary"
	"math"
	"slices"
	"testing"

	"caisson/api"
	"caisson/sense"
)

// gens are numbers that go into four bytes, or not.
var gens = []int64{math.MinInt64, math.MinInt64 + 1, -1 << 32, -1 << 31, -2, -1, 0, 1, 2, 255, 256, 1<<31 - 1, 1 << 31, 1<<32 - 2, 1<<32 - 1, 1 << 32, 1<<32 + 1, 1 << 62, math.MaxInt64}

func isGen(n int64) bool { return n >= 0 && n < 1<<32 }

// keys is n keys, the highest and 0 among them.
func keys(n int) []uint64 {
	var l []uint64
	for i := range n {
		l = append(l, []uint64{math.MaxUint64, 0, 1 << 63, 7, 0x0102030405060708}[i%5])
	}
	return l
}

// P16.4: keys, byte by byte.
func TestKeysByteByByte(t *testing.T) {
	if b, e := sense.Keys(3, []uint64{5}); e != api.OK || string(b) != "\x00\x00\x00\x03\x00\x00\x00\x08\x00\x00\x00\x00\x00\x00\x00\x05" {
		t.Errorf("% x %v", b, e)
	}
	want := []byte{0xff, 0xfe, 0xfd, 0xfc, 0, 0, 0, 16, 0xff, 2, 3, 4, 5, 6, 7, 8, 0, 0, 0, 0, 0, 0, 0, 0}
	if b, e := sense.Keys(0xfffefdfc, []uint64{0xff02030405060708, 0}); e != api.OK || !bytes.Equal(b, want) {
		t.Errorf("% x %v", b, e)
	}
	for _, l := range [][]uint64{nil, {}} {
		if b, e := sense.Keys(1, l); e != api.OK || !bytes.Equal(b, []byte{0, 0, 0, 1, 0, 0, 0, 0}) {
			t.Errorf("none: % x %v", b, e)
		}
	}
}

// P16.4: as many keys as can be, and more; numbers that go into four bytes, and others, which are told first.
func TestKeysBounds(t *testing.T) {
	for _, gen := range gens {
		for _, n := range []int{0, 1, 2, 15, 16, 17, 18, 255, 256, 8192, 1 << 20} {
			l := keys(n)
			b, e := sense.Keys(gen, l)
			want := api.OK
			if !isGen(gen) {
				want = api.ErrArg
			} else if n > 16 {
				want = api.ErrSize
			}
			if e != want || e != api.OK && b != nil {
				t.Errorf("%d, %d keys: %v, not %v", gen, n, e, want)
			}
			if e != api.OK {
				continue
			}
			all := binary.BigEndian.AppendUint32(nil, uint32(gen))
			all = binary.BigEndian.AppendUint32(all, uint32(8*n))
			for _, key := range l {
				all = binary.BigEndian.AppendUint64(all, key)
			}
			if !bytes.Equal(b, all) || !slices.Equal(l, keys(n)) {
				t.Errorf("%d, %d keys: % x", gen, n, b)
			}
		}
	}
}

// P16.4: reservations, byte by byte.
func TestHolderByteByByte(t *testing.T) {
	if b, e := sense.Holder(0xfffefdfc, 0xff02030405060708, 5); e != api.OK || !bytes.Equal(b, []byte{0xff, 0xfe, 0xfd, 0xfc, 0, 0, 0, 16, 0xff, 2, 3, 4, 5, 6, 7, 8, 0, 0, 0, 0, 0, 5, 0, 0}) {
		t.Errorf("% x %v", b, e)
	}
	if b, e := sense.Holder(7, 0, 8); e != api.OK || !bytes.Equal(b, []byte{0, 0, 0, 7, 0, 0, 0, 16, 0, 0, 0, 0, 0, 0, 0, 0, 0, 0, 0, 0, 0, 8, 0, 0}) {
		t.Errorf("% x %v", b, e)
	}
	for _, key := range []uint64{0, 1, math.MaxUint64} { // of no reservation the key plays no part
		if b, e := sense.Holder(258, key, 0); e != api.OK || !bytes.Equal(b, []byte{0, 0, 1, 2, 0, 0, 0, 0}) {
			t.Errorf("% x %v", b, e)
		}
	}
}

// P16.4: kinds and numbers at their bounds and beyond them.
func TestHolderBounds(t *testing.T) {
	for _, gen := range gens {
		for _, key := range keys(5) {
			for _, kind := range append([]int{3, 4, 5, 6, 7, 8, 9, 10}, edges...) {
				b, e := sense.Holder(gen, key, kind)
				if !isGen(gen) || kind < 0 || kind > 8 {
					if e != api.ErrArg || b != nil {
						t.Errorf("%d %d %d: % x %v", gen, key, kind, b, e)
					}
					continue
				}
				want := binary.BigEndian.AppendUint32(nil, uint32(gen))
				if kind == 0 {
					want = append(want, 0, 0, 0, 0)
				} else {
					want = binary.BigEndian.AppendUint64(append(want, 0, 0, 0, 16), key)
					want = append(want, 0, 0, 0, 0, 0, byte(kind), 0, 0)
				}
				if e != api.OK || !bytes.Equal(b, want) {
					t.Errorf("%d %d %d: % x %v", gen, key, kind, b, e)
				}
			}
		}
	}
}

// Rule 5: a list of keys is not kept.
func TestKeysShareNothing(t *testing.T) {
	l := keys(5)
	b, _ := sense.Keys(1, l)
	want := slices.Clone(b)
	clear(l)
	if !bytes.Equal(b, want) {
		t.Error("Keys keeps its list")
	}
}
