package sums_test

import (
	"bytes"
	"hash/crc32"
	"math"
	"math/rand"
	"testing"

	"caisson/api"
	"caisson/sums"
)

// byBits is the sum as the document words it, bit by bit, told apart from how the package reckons it.
func byBits(b []byte) uint32 {
	register := uint32(0xffffffff)
	for i := range 8 * len(b) {
		turn := (register ^ uint32(b[i/8]>>(i%8))) & 1
		register >>= 1
		if turn == 1 {
			register ^= 0x82f63b78
		}
	}
	return ^register
}

func noise(r *rand.Rand, n int) []byte {
	b := make([]byte, n)
	r.Read(b)
	return b
}

func behind(a, b []byte) []byte { return append(bytes.Clone(a), b...) }

// P1.1: Sum, at known inputs.
func TestSumOfKnownBytes(t *testing.T) {
	up, down := make([]byte, 32), make([]byte, 32)
	for i := range 32 {
		up[i], down[i] = byte(i), byte(31-i)
	}
	for _, c := range []struct {
		name string
		b    []byte
		want uint32
	}{
		{"nil", nil, 0},
		{"no bytes", []byte{}, 0},
		{"the digits", []byte("123456789"), 0xe3069283},
		{"32 bytes 0", make([]byte, 32), 0x8a9136aa},
		{"32 bytes 255", bytes.Repeat([]byte{255}, 32), 0x62a8ab43},
		{"32 bytes upwards", up, 0x46dd794e},
		{"32 bytes downwards", down, 0x113fdb5c},
	} {
		if got := sums.Sum(c.b); got != c.want {
			t.Errorf("Sum of %s: %x, not %x", c.name, got, c.want)
		}
	}
}

// P1.1: Sum, against the document's words and against the library.
func TestSumOfAnyBytes(t *testing.T) {
	table := crc32.MakeTable(crc32.Castagnoli)
	r := rand.New(rand.NewSource(1))
	for n := range 300 {
		b := noise(r, n)
		if got := sums.Sum(b); got != byBits(b) || got != crc32.Checksum(b, table) {
			t.Fatalf("Sum(%x) = %x, not %x", b, got, byBits(b))
		}
	}
	for c := range 256 {
		if b := []byte{byte(c)}; sums.Sum(b) != byBits(b) {
			t.Errorf("Sum(%x)", b)
		}
	}
	if b := noise(r, api.MaxBytes+1); sums.Sum(b) != crc32.Checksum(b, table) {
		t.Error("Sum of more than MaxBytes bytes")
	}
}

// P1.1, P1.2: More and Join, cut anywhere.
func TestMoreAndJoin(t *testing.T) {
	r := rand.New(rand.NewSource(2))
	whole := noise(r, 300)
	for cut := range len(whole) + 1 {
		a, b := whole[:cut], whole[cut:]
		want := byBits(whole)
		if got := sums.More(sums.Sum(a), b); got != want {
			t.Fatalf("More, cut at %d: %x, not %x", cut, got, want)
		}
		if got, e := sums.Join(sums.Sum(a), sums.Sum(b), len(b)); got != want || e != api.OK {
			t.Fatalf("Join, cut at %d: %x %v, not %x", cut, got, e, want)
		}
	}
	if sums.More(0xe3069283, nil) != 0xe3069283 || sums.More(0, []byte("123456789")) != 0xe3069283 {
		t.Error("More of nothing, or behind nothing")
	}
}

// P1.2: Join of pieces of all magnitudes, up to the limit.
func TestJoinOfLongPieces(t *testing.T) {
	r := rand.New(rand.NewSource(3))
	lengths := []int{0, 1, 2, 3, 4, 5, 7, 8, 9, 255, 256, 4095, 4096, 32767, 32768, api.MaxBytes - 1, api.MaxBytes}
	for range 30 {
		lengths = append(lengths, r.Intn(api.MaxBytes+1))
	}
	for _, n := range lengths {
		a, b := noise(r, r.Intn(40)), noise(r, n)
		got, e := sums.Join(sums.Sum(a), sums.Sum(b), n)
		if want := sums.Sum(behind(a, b)); got != want || e != api.OK {
			t.Errorf("Join of %d and %d bytes: %x %v, not %x", len(a), n, got, e, want)
		}
	}
}

// P1.1, P1: Join beyond its bounds.
func TestJoinRefuses(t *testing.T) {
	for _, n := range []int{-1, -2, api.MaxBytes + 1, 1 << 32, math.MinInt, math.MaxInt} {
		if got, e := sums.Join(0xe3069283, 7, n); got != 0 || e != api.ErrArg {
			t.Errorf("Join with n %d: %x %v", n, got, e)
		}
	}
}

// P1.1, P7: Digest and Right.
func TestDigest(t *testing.T) {
	if d := sums.Digest([]byte("123456789")); !bytes.Equal(d, []byte{0x83, 0x92, 0x06, 0xe3}) {
		t.Errorf("Digest: %x", d)
	}
	if d := sums.Digest(make([]byte, 32)); !bytes.Equal(d, []byte{0xaa, 0x36, 0x91, 0x8a}) {
		t.Errorf("Digest of 32 bytes 0: %x", d)
	}
	if d := sums.Digest(nil); !bytes.Equal(d, []byte{0, 0, 0, 0}) {
		t.Errorf("Digest of nil: %x", d)
	}
}

// P1.1, P7: Right takes the digest itself and no other bytes.
func TestRight(t *testing.T) {
	b := []byte("123456789")
	d := sums.Digest(b)
	if !sums.Right(b, d) || !sums.Right(nil, make([]byte, 4)) {
		t.Error("the digest is refused")
	}
	for i := range 32 {
		other := bytes.Clone(d)
		other[i/8] ^= 1 << (i % 8)
		if sums.Right(b, other) {
			t.Errorf("Right with %x", other)
		}
	}
	turned := []byte{d[3], d[2], d[1], d[0]}
	for _, other := range [][]byte{nil, {}, d[:1], d[:3], behind(d, []byte{0}), behind(d, d), turned} {
		if sums.Right(b, other) {
			t.Errorf("Right with %x", other)
		}
	}
	if sums.Right(nil, nil) || sums.Right(b[:8], d) {
		t.Error("Right of other bytes")
	}
}

// P1.1: Pad.
func TestPad(t *testing.T) {
	for n := range 1000 {
		if got := sums.Pad(n); got < 0 || got > 3 || (n+got)%4 != 0 {
			t.Errorf("Pad(%d) = %d", n, got)
		}
	}
	for n, want := range map[int]int{5: 3, 0: 0, -1: 0, -2: 0, -3: 0, -5: 0, math.MinInt: 0, math.MinInt + 1: 0, math.MaxInt: 1, math.MaxInt - 1: 2, math.MaxInt - 2: 3, math.MaxInt - 3: 0} {
		if got := sums.Pad(n); got != want {
			t.Errorf("Pad(%d) = %d, not %d", n, got, want)
		}
	}
}

// turn turns the bits of pattern in b, from the bit at on, the lowest bit of each byte first.
func turn(b []byte, at int, pattern uint32) []byte {
	out := bytes.Clone(b)
	for i := range 32 {
		if pattern>>i&1 == 1 {
			out[(at+i)/8] ^= 1 << ((at + i) % 8)
		}
	}
	return out
}

// P1.3: one bit, and up to 32 in a row, turn the sum.
func TestTurnedBitsTurnTheSum(t *testing.T) {
	r := rand.New(rand.NewSource(4))
	b := noise(r, 24)
	sum := sums.Sum(b)
	for length := 1; length <= 32; length++ {
		ends := uint32(1) | uint32(1)<<(length-1)
		within := uint32(1)<<length - 1
		for at := 0; at+length <= 8*len(b); at++ {
			for _, middle := range []uint32{0, within, r.Uint32() & within, 0x82f63b78 & within} {
				if sums.Sum(turn(b, at, ends|middle)) == sum {
					t.Fatalf("%d bits from %d on, %x: the sum stays", length, at, ends|middle)
				}
			}
		}
	}
	long := noise(r, 4096)
	sum = sums.Sum(long)
	for at := 0; at < 8*len(long); at += 1 + r.Intn(200) {
		if sums.Sum(turn(long, at, 1)) == sum {
			t.Fatalf("bit %d of many: the sum stays", at)
		}
	}
}

// P1.4: the sum of bytes with their digest behind them.
func TestSumOfBytesWithTheirDigest(t *testing.T) {
	r := rand.New(rand.NewSource(5))
	for n := range 200 {
		b := noise(r, n)
		if got := sums.Sum(behind(b, sums.Digest(b))); got != 0x48674bc7 {
			t.Fatalf("%x with its digest: %x", b, got)
		}
	}
}

// Nothing that is handed in is changed, and no two answers share memory.
func TestDigestIsNewMemory(t *testing.T) {
	b := []byte("123456789")
	first := sums.Digest(b)
	first[0] = 0
	_ = append(first[:2], 9, 9, 9)
	if second := sums.Digest(b); !bytes.Equal(second, []byte{0x83, 0x92, 0x06, 0xe3}) {
		t.Errorf("Digest behind a write into another one: %x", second)
	}
	d := sums.Digest(b)
	sums.Right(b, d)
	sums.More(1, b)
	if string(b) != "123456789" || !bytes.Equal(d, []byte{0x83, 0x92, 0x06, 0xe3}) {
		t.Error("an argument was changed")
	}
}
