package chunk_test

import (
	"bytes"
	"encoding/binary"
	"hash/crc32"
	"math"
	"math/rand"
	"slices"
	"testing"

	"caisson/api"
	"caisson/chunk"
)

const highestId = 1 << 60

func ok(t *testing.T, e api.Errno) {
	t.Helper()
	if e != api.OK {
		t.Fatal("an error:", e)
	}
}

func split(t *testing.T, id int64, b []byte, size int) [][]byte {
	t.Helper()
	l, e := chunk.Split(id, b, size)
	if e != api.OK {
		t.Fatalf("Split of %d bytes in pieces of %d: %v", len(b), size, e)
	}
	return l
}

// noise is n bytes, always the same of one seed.
func noise(seed int64, n int) []byte {
	b := make([]byte, n)
	rand.New(rand.NewSource(seed)).Read(b)
	return b
}

func sum(b []byte) uint32 { return crc32.Checksum(b, crc32.MakeTable(crc32.Castagnoli)) }

// sealed is b with its sum behind it.
func sealed(b []byte) []byte { return binary.BigEndian.AppendUint32(slices.Clone(b), sum(b)) }

// made is a piece with these fields, whether or not they can be.
func made(id int64, number, count int, whole uint32, data []byte) []byte {
	b := binary.BigEndian.AppendUint64(nil, uint64(id))
	b = binary.BigEndian.AppendUint16(b, uint16(number))
	b = binary.BigEndian.AppendUint16(b, uint16(count))
	b = binary.BigEndian.AppendUint32(b, whole)
	b = binary.BigEndian.AppendUint16(b, uint16(len(data)))
	return sealed(append(b, data...))
}

// P7.1: the pieces, byte by byte.
func TestSplitByteByByte(t *testing.T) {
	image := []byte("abcde")
	l := split(t, 1, image, 2)
	want := [][]byte{made(1, 0, 3, sum(image), []byte("ab")), made(1, 1, 3, sum(image), []byte("cd")), made(1, 2, 3, sum(image), []byte("e"))}
	if !slices.EqualFunc(l, want, bytes.Equal) {
		t.Errorf("% x, not % x", l, want)
	}
	// The sum of "123456789" is hex e3069283.
	l = split(t, 0x0102030405060708, []byte("123456789"), 4096)
	ahead := []byte{1, 2, 3, 4, 5, 6, 7, 8, 0, 0, 0, 1, 0xe3, 0x06, 0x92, 0x83, 0, 9, '1', '2', '3', '4', '5', '6', '7', '8', '9'}
	if len(l) != 1 || !bytes.Equal(l[0], sealed(ahead)) {
		t.Errorf("% x", l)
	}
	for _, b := range [][]byte{nil, {}} {
		l = split(t, highestId, b, 1)
		ahead = []byte{0x10, 0, 0, 0, 0, 0, 0, 0, 0, 0, 0, 1, 0, 0, 0, 0, 0, 0}
		if len(l) != 1 || !bytes.Equal(l[0], sealed(ahead)) {
			t.Errorf("of no bytes: % x", l)
		}
	}
}

// P7.1: how many pieces there are, and how many bytes they have, up to the limits.
func TestSplitAtTheEdges(t *testing.T) {
	for _, c := range []struct{ bytes, size, count, last int }{
		{0, 1, 1, 0}, {0, 4096, 1, 0}, {1, 1, 1, 1}, {2, 1, 2, 1}, {1, 4096, 1, 1},
		{4095, 4096, 1, 4095}, {4096, 4096, 1, 4096}, {4097, 4096, 2, 1},
		{255, 1, 255, 1}, {256, 1, 256, 1}, {257, 2, 129, 1}, {511, 2, 256, 1}, {512, 2, 256, 2},
		{65536, 256, 256, 256}, {65535, 256, 256, 255}, {65281, 256, 256, 1}, {65280, 255, 256, 255}, {65536, 4096, 16, 4096}, {65536, 4095, 17, 16},
	} {
		image := noise(1, c.bytes)
		l := split(t, 7, image, c.size)
		if len(l) != c.count {
			t.Errorf("%d bytes by %d: %d pieces, not %d", c.bytes, c.size, len(l), c.count)
			continue
		}
		for i, p := range l {
			n := c.size
			if i == c.count-1 {
				n = c.last
			}
			from := i * c.size
			if !bytes.Equal(p, made(7, i, c.count, sum(image), image[from:from+n])) {
				t.Errorf("%d bytes by %d: the piece %d is another one", c.bytes, c.size, i)
			}
		}
	}
}

// P7.1, P1: what Split refuses, and which error comes first.
func TestSplitRefuses(t *testing.T) {
	for _, c := range []struct {
		id          int64
		bytes, size int
		want        api.Errno
	}{
		{1, 1, 1, api.OK}, {highestId, 1, 1, api.OK},
		{0, 1, 1, api.ErrArg}, {-1, 1, 1, api.ErrArg}, {highestId + 1, 1, 1, api.ErrArg}, {math.MaxInt64, 1, 1, api.ErrArg}, {math.MinInt64, 1, 1, api.ErrArg},
		{1, 1, 0, api.ErrArg}, {1, 1, -1, api.ErrArg}, {1, 1, 4097, api.ErrArg}, {1, 1, math.MaxInt, api.ErrArg}, {1, 1, math.MinInt, api.ErrArg}, {1, 0, 0, api.ErrArg},
		{1, 65537, 4096, api.ErrSize}, {1, 70000, 4096, api.ErrSize}, {1, 1 << 20, 1, api.ErrSize},
		{1, 257, 1, api.ErrSize}, {1, 513, 2, api.ErrSize}, {1, 65281, 255, api.ErrSize}, {1, 65536, 255, api.ErrSize}, {1, 65536, 1, api.ErrSize},
		{0, 65537, 4096, api.ErrArg}, {1, 65537, 0, api.ErrArg}, {1, 65537, 4097, api.ErrArg}, {0, 257, 1, api.ErrArg},
	} {
		l, e := chunk.Split(c.id, make([]byte, c.bytes), c.size)
		if e != c.want || (e != api.OK) != (len(l) == 0) {
			t.Errorf("Split(%d, %d bytes, %d): %d pieces, %v, not %v", c.id, c.bytes, c.size, len(l), e, c.want)
		}
	}
}

// P7.1: what is handed in is neither changed nor kept, and no two pieces share memory.
func TestSplitSharesNothing(t *testing.T) {
	image := []byte("abcdef")
	l := split(t, 1, image, 2)
	again := split(t, 1, image, 2)
	if string(image) != "abcdef" {
		t.Error("the image has changed")
	}
	copy(image, "ABCDEF")
	for i := range l {
		_ = append(l[i], 1, 2, 3, 4, 5, 6, 7, 8)
		if !bytes.Equal(l[i], again[i]) {
			t.Error("the piece", i, "has changed")
		}
		clear(l[i])
	}
	if b, e := chunk.Join(again); e != api.OK || string(b) != "abcdef" {
		t.Error("Join", string(b), e)
	}
}

// P7.3: Join is what a new Reader has.
func TestJoin(t *testing.T) {
	old, next := split(t, 4, []byte("abcde"), 2), split(t, 5, []byte("vwxyz"), 3)
	torn := slices.Clone(old[1])
	torn[len(torn)-1] ^= 1
	for i, c := range []struct {
		l    [][]byte
		want string
		e    api.Errno
	}{
		{old, "abcde", api.OK},
		{[][]byte{old[2], old[0], old[0], old[1], old[2]}, "abcde", api.OK},
		{[][]byte{old[0], old[1], next[1], next[0]}, "vwxyz", api.OK},
		{split(t, 1, nil, 1), "", api.OK},
		{nil, "", api.ErrShort}, {[][]byte{}, "", api.ErrShort},
		{old[:2], "", api.ErrShort}, {old[1:], "", api.ErrShort}, {[][]byte{old[0], old[0], old[2]}, "", api.ErrShort},
		{[][]byte{old[0], old[1], old[2], next[0]}, "", api.ErrShort},
		{[][]byte{next[0], old[0], next[1]}, "", api.ErrState},
		{[][]byte{next[0], next[1], old[0]}, "", api.ErrState},
		{[][]byte{old[0], nil}, "", api.ErrShort}, {[][]byte{nil}, "", api.ErrShort}, {[][]byte{append(slices.Clone(old[0]), 0)}, "", api.ErrForm},
		{[][]byte{torn, old[0], old[1], old[2]}, "", api.ErrSum},
		{[][]byte{old[0], old[1], old[2], torn}, "", api.ErrSum},
		{[][]byte{old[0], made(0, 0, 1, 0, nil), torn}, "", api.ErrArg}, // the first error, not a later one
		{[][]byte{old[0], torn, made(0, 0, 1, 0, nil)}, "", api.ErrSum},
		{[][]byte{old[0], made(4, 1, 3, 1, []byte("cd")), old[2]}, "", api.ErrForm},
		{[][]byte{made(4, 0, 1, 1, []byte("cd"))}, "", api.ErrShort}, // its sum is not that
	} {
		if b, e := chunk.Join(c.l); string(b) != c.want || e != c.e {
			t.Errorf("%d: %q, %v, not %q, %v", i, b, e, c.want, c.e)
		}
	}
}

// P7.4: in any order, any of them twice.
func TestAnyOrder(t *testing.T) {
	r := rand.New(rand.NewSource(1))
	for range 300 {
		size := 1 + r.Intn(4096)
		if r.Intn(2) == 0 {
			size = 1 + r.Intn(9)
		}
		n := r.Intn(min(api.MaxBytes, size*chunk.Most) + 1)
		if r.Intn(3) > 0 {
			n = min(n, 5*size)
		}
		image, id := noise(r.Int63(), n), 1+r.Int63n(highestId)
		l := split(t, id, image, size)
		if b, e := chunk.Join(l); e != api.OK || !bytes.Equal(b, image) {
			t.Fatal("Join", len(b), e)
		}
		for range r.Intn(len(l) + 1) {
			l = append(l, l[r.Intn(len(l))])
		}
		r.Shuffle(len(l), func(i, j int) { l[i], l[j] = l[j], l[i] })
		x := chunk.New()
		for _, p := range l {
			ok(t, x.Add(p))
		}
		if b, whole := x.Whole(); !whole || !bytes.Equal(b, image) || x.Id() != id || x.Added() != int64(len(l)) {
			t.Fatal("Whole", len(b), whole)
		}
	}
}

// turn turns those of the 32 bits from the bit at on that pattern has; bits are counted as the sum does, the lowest one of a byte first.
func turn(b []byte, at int, pattern uint32) {
	for i := range 32 {
		if pattern>>i&1 == 1 {
			b[(at+i)/8] ^= 1 << ((at + i) % 8)
		}
	}
}

// P7.5: up to 32 bits in a row, wherever they are but in the length and in the sum at the end.
func TestTurned(t *testing.T) {
	r := rand.New(rand.NewSource(1))
	image := noise(2, 50)
	for _, p := range split(t, 3, image, 20) {
		for _, span := range [][2]int{{0, 16}, {18, len(p) - 4}} { // ahead of the length, and behind it
			for at := span[0] * 8; at < span[1]*8; at++ {
				room := min(32, span[1]*8-at)
				for _, bits := range []int{1, 2, 8, 31, 32, 1 + r.Intn(32)} {
					bits = min(bits, room)
					all := uint32(1<<bits - 1)
					for _, pattern := range []uint32{all, 1 | 1<<(bits-1), r.Uint32()&all | 1} {
						refusedTurned(t, p, at, pattern)
					}
				}
			}
		}
	}
}

func refusedTurned(t *testing.T, p []byte, at int, pattern uint32) {
	t.Helper()
	turned := slices.Clone(p)
	turn(turned, at, pattern)
	x := chunk.New()
	if e := x.Add(turned); e != api.ErrSum || x.Id() != 0 || x.Added() != 0 {
		t.Fatalf("turned by %x from the bit %d on: %v", pattern, at, e)
	}
}

// P7.5: a piece that is cut anywhere.
func TestCutPiece(t *testing.T) {
	for _, size := range []int{1, 5, 300} {
		for _, p := range split(t, 3, noise(4, size*2+1), size) {
			for n := range len(p) {
				x := chunk.New()
				if e := x.Add(p[:n]); e != api.ErrShort || x.Id() != 0 || x.Count() != 0 || x.Added() != 0 {
					t.Fatalf("%d of %d bytes: %v", n, len(p), e)
				}
			}
		}
	}
}

// P1, P7: whatever bytes come, none panics, and what is taken is just what a piece is written as.
func TestAnyBytes(t *testing.T) {
	r := rand.New(rand.NewSource(3))
	taken := 0
	for range 20000 {
		data := noise(r.Int63(), r.Intn(30))
		p := made(r.Int63n(4)-1, r.Intn(4), r.Intn(5), r.Uint32(), data)
		switch r.Intn(4) {
		case 0:
			p = noise(r.Int63(), r.Intn(60))
		case 1:
			p[r.Intn(len(p))] ^= byte(r.Intn(256))
		case 2: // with another length, and the right sum
			p = p[:len(p)-4]
			p[17] = byte(r.Intn(32))
			p = sealed(p)
		}
		x := chunk.New()
		if x.Add(p) != api.OK {
			continue
		}
		taken++
		again := made(x.Id(), int(p[9]), x.Count(), binary.BigEndian.Uint32(p[12:]), p[18:len(p)-4])
		if !bytes.Equal(p, again) {
			t.Fatalf("% x is taken", p)
		}
	}
	if taken < 1000 {
		t.Error("hardly any piece is taken:", taken)
	}
}
