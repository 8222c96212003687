package dedup_test

import (
	"bytes"
	"math"
	"math/rand"
	"slices"
	"testing"

	"caisson/api"
	"caisson/dedup"
)

// seqs is n numbers from first on.
func seqs(first int64, n int) []int64 {
	var l []int64
	for i := range n {
		l = append(l, first+int64(i))
	}
	return l
}

// P12.3: a table, byte by byte.
func TestBytesByteByByte(t *testing.T) {
	if b := dedup.New().Bytes(); !bytes.Equal(b, make([]byte, 144)) {
		t.Errorf("New: % x", b)
	}
	d := dedup.New()
	put(t, d, 1, 0x0102, api.Reply{Status: 2, Key: 6, Asc: 0x2a, Ascq: 5, Data: []byte("x")})
	put(t, d, 1, 0x0101, api.Reply{Status: 8})
	for n := int64(3); n <= 67; n++ {
		put(t, d, 15, n, api.Reply{})
	}
	want := slices.Concat(make([]byte, 9),
		[]byte{2, 0, 0, 0, 0, 0, 0, 0, 0},
		[]byte{0, 0, 0, 0, 0, 0, 1, 1, 0, 6, 8, 0, 0, 0, 0, 0},
		[]byte{0, 0, 0, 0, 0, 0, 1, 2, 0, 7, 2, 6, 0x2a, 5, 0, 1, 'x'},
		make([]byte, 13*9),
		[]byte{64, 0, 0, 0, 0, 0, 0, 0, 3})
	for n := byte(4); n <= 67; n++ {
		want = append(want, 0, 0, 0, 0, 0, 0, 0, n, 0, 6, 0, 0, 0, 0, 0, 0)
	}
	if b := d.Bytes(); !bytes.Equal(b, want) {
		t.Errorf("Bytes: % x", b)
	}
	if x := load(t, want); !x.Same(d) || x.Len(15) != 64 || x.Last(15) != 67 {
		t.Error("Load")
	}
}

// P12.3: counts, floors and numbers at their bounds and beyond them, of the first and the last nexus.
func TestLoadBounds(t *testing.T) {
	for i, c := range []struct {
		p    part
		want api.Errno
	}{
		{partOf(0), api.OK}, {partOf(1), api.OK}, {partOf(highest), api.OK},
		{partOf(highest + 1), api.ErrForm}, {partOf(-1), api.ErrForm}, {partOf(math.MinInt64), api.ErrForm}, {partOf(math.MaxInt64), api.ErrForm},
		{partOf(0, seqs(1, 64)...), api.OK}, {partOf(0, seqs(1, 65)...), api.ErrForm}, {partOf(0, seqs(1, 255)...), api.ErrForm},
		{partOf(0, 1), api.OK}, {partOf(0, 0), api.ErrForm}, {partOf(0, -1), api.ErrForm}, {partOf(0, math.MinInt64), api.ErrForm},
		{partOf(0, highest), api.OK}, {partOf(0, highest+1), api.ErrForm}, {partOf(0, math.MaxInt64), api.ErrForm},
		{partOf(5, 6), api.OK}, {partOf(5, 5), api.ErrForm}, {partOf(5, 4), api.ErrForm}, {partOf(highest, highest), api.ErrForm},
		{partOf(highest-1, highest), api.OK}, {partOf(highest, highest+1), api.ErrForm},
		{partOf(0, 6, 7), api.OK}, {partOf(0, 6, 6), api.ErrForm}, {partOf(0, 6, 5), api.ErrForm}, {partOf(0, 6, 0), api.ErrForm},
		{partOf(0, highest, highest), api.ErrForm}, {partOf(0, highest, highest+1), api.ErrForm}, {partOf(0, 6, -1), api.ErrForm},
		{partOf(3, 4, 9, 8), api.ErrForm}, {partOf(3, 4, 8, 9), api.OK},
	} {
		for _, nexus := range []int{0, 7, 15} {
			b := tableBytes(map[int]part{nexus: c.p})
			d, e := dedup.Load(b)
			if e != c.want || e != api.OK && d != nil {
				t.Error(i, nexus, e, "not", c.want)
			} else if e == api.OK && !bytes.Equal(d.Bytes(), b) {
				t.Error(i, nexus, "Bytes")
			}
		}
	}
}

// P12.3: an answer that GetReply does not read, with GetReply's error.
func TestLoadOfWrongAnswers(t *testing.T) {
	good := replyBytes(api.Reply{Data: []byte("ab")})
	for i, c := range []struct {
		reply []byte
		want  api.Errno
	}{
		{good, api.OK}, {replyBytes(api.Reply{Data: make([]byte, 4096)}), api.OK},
		{nil, api.ErrShort}, {good[:5], api.ErrShort}, {good[:7], api.ErrShort},
		{append(slices.Clone(good), 0), api.ErrForm},
		{replyBytes(api.Reply{Data: make([]byte, 4097)}), api.ErrSize},
		{append(replyBytes(api.Reply{Data: make([]byte, 4097)}), 0), api.ErrForm},
	} {
		for _, nexus := range []int{0, 15} {
			b := tableBytes(map[int]part{nexus: {count: 2, rows: []row{{1, good}, {2, c.reply}}}})
			if d, e := dedup.Load(b); e != c.want || e != api.OK && d != nil {
				t.Error(i, nexus, e, "not", c.want)
			}
		}
	}
}

// P12.3: the first error on the way is told: nexus by nexus, number by number, its answer behind it, and the end at last.
func TestLoadTellsTheFirst(t *testing.T) {
	short := part{count: 1, rows: []row{{1, nil}}}
	long := part{count: 1, rows: []row{{1, replyBytes(api.Reply{Data: make([]byte, 4097)})}}}
	wrong := partOf(-1)
	for i, c := range []struct {
		of     map[int]part
		cut    int
		behind []byte
		want   api.Errno
	}{
		{map[int]part{3: short, 5: wrong}, 0, nil, api.ErrShort},
		{map[int]part{3: wrong, 5: short}, 0, nil, api.ErrForm},
		{map[int]part{3: wrong, 5: long}, 0, nil, api.ErrForm},
		{map[int]part{3: long, 5: wrong}, 0, nil, api.ErrSize},
		{map[int]part{3: long, 5: short}, 0, nil, api.ErrSize},
		{map[int]part{3: long}, 1, nil, api.ErrSize},
		{map[int]part{3: wrong}, 1, nil, api.ErrForm},
		{map[int]part{3: wrong}, 12 * 9, nil, api.ErrForm},    // all of the floor is there
		{map[int]part{3: wrong}, 12*9 + 1, nil, api.ErrShort}, // and a byte less
		{map[int]part{3: long}, 0, []byte{0}, api.ErrSize},
		{map[int]part{3: short}, 0, []byte{0}, api.ErrShort},
		{map[int]part{3: partOf(0, 1)}, 0, []byte{0}, api.ErrForm},
		{map[int]part{3: partOf(0, 1)}, 1, nil, api.ErrShort},
		{map[int]part{0: {count: 2, rows: []row{{0, nil}, {2, nil}}}}, 0, nil, api.ErrForm},  // a wrong number, and then its answer
		{map[int]part{0: {count: 2, rows: []row{{1, nil}, {1, nil}}}}, 0, nil, api.ErrShort}, // an answer, and then a wrong number
	} {
		b := tableBytes(c.of)
		b = append(b[:len(b)-c.cut], c.behind...)
		if d, e := dedup.Load(b); e != c.want || d != nil {
			t.Error(i, e, "not", c.want)
		}
	}
}

// P12.3, P1: a count and a floor, or a number and its answer, that are wrong and cut: what is missing of the two is told ahead of what they say, and what is missing behind them is not.
func TestLoadOfWrongAndCutBytes(t *testing.T) {
	good := replyBytes(api.Reply{Data: []byte("ab")})
	long := replyBytes(api.Reply{Data: make([]byte, 4097)})
	const head = 1 + 8
	oneRow := 8 + 2 + len(good)
	for i, c := range []struct {
		p    part
		need int // so many bytes are read to tell it
		want api.Errno
	}{
		{part{count: 65}, head, api.ErrForm},
		{part{count: 255, floor: highest + 1}, head, api.ErrForm},
		{part{count: 1, floor: -1, rows: []row{{0, good}}}, head, api.ErrForm},
		{part{floor: highest + 1}, head, api.ErrForm},
		{part{count: 1, rows: []row{{0, good}}}, head + oneRow, api.ErrForm},
		{part{count: 1, rows: []row{{-1, good}}}, head + oneRow, api.ErrForm},
		{part{count: 1, rows: []row{{highest + 1, good}}}, head + oneRow, api.ErrForm},
		{part{count: 1, floor: 5, rows: []row{{5, good}}}, head + oneRow, api.ErrForm},
		{part{count: 2, floor: 5, rows: []row{{4, good}, {5, good}}}, head + oneRow, api.ErrForm},
		{part{count: 2, rows: []row{{6, good}, {6, good}}}, head + 2*oneRow, api.ErrForm},
		{part{count: 3, rows: []row{{6, good}, {5, good}, {4, good}}}, head + 2*oneRow, api.ErrForm},
		{part{count: 1, rows: []row{{0, nil}}}, head + 10, api.ErrForm}, // an answer of no bytes is there, but GetReply's error is named behind
		{part{count: 1, rows: []row{{0, long}}}, head + 10 + len(long), api.ErrForm},
		{part{count: 1, rows: []row{{1, long}}}, head + 10 + len(long), api.ErrSize},
		{part{count: 1, rows: []row{{1, append(slices.Clone(good), 0)}}}, head + oneRow + 1, api.ErrForm},
	} {
		for _, nexus := range []int{0, 7, 15} {
			b := tableBytes(map[int]part{nexus: c.p})
			need := nexus*head + c.need
			for n := range len(b) + 1 {
				want := c.want
				if n < need {
					want = api.ErrShort
				}
				if d, e := dedup.Load(b[:n]); e != want || d != nil {
					t.Fatal(i, nexus, "cut to", n, e, "not", want)
				}
			}
		}
	}
}

// P12.3: cut at each place, and longer.
func TestLoadOfCutBytes(t *testing.T) {
	b := tableBytes(map[int]part{0: partOf(4, 5, 9), 8: partOf(highest), 15: partOf(0, 1, 2)})
	for n := range b {
		if d, e := dedup.Load(b[:n]); e != api.ErrShort || d != nil {
			t.Error("cut to", n, e)
		}
	}
	for _, more := range [][]byte{{0}, {1, 2}, make([]byte, 9), b} {
		if d, e := dedup.Load(slices.Concat(b, more)); e != api.ErrForm || d != nil {
			t.Error("longer", len(more), e)
		}
	}
	if d, e := dedup.Load(nil); e != api.ErrShort || d != nil {
		t.Error("nil", e)
	}
}

// P12.3: more than 16 MaxBytes bytes are refused ahead of anything else, also if they are a table's.
func TestLoadOfTooManyBytes(t *testing.T) {
	if d, e := dedup.Load(make([]byte, 16*api.MaxBytes+1)); e != api.ErrSize || d != nil {
		t.Error("one too many", e)
	}
	if d, e := dedup.Load(make([]byte, 16*api.MaxBytes)); e != api.ErrForm || d != nil {
		t.Error("as many as can be", e)
	}
	// Each answer has 4112 bytes with its number: 254 of them, and the last one's data cut or not, are just too many or not.
	for _, c := range []struct {
		last int
		want api.Errno
	}{{3968, api.OK}, {3969, api.ErrSize}} {
		d := dedup.New()
		for n := range 254 {
			put(t, d, n/64, int64(1+n), api.Reply{Key: n, Data: make([]byte, 4096)})
		}
		put(t, d, 9, 1, api.Reply{Data: make([]byte, c.last)})
		b := d.Bytes()
		if len(b) != 144+254*4112+16+c.last {
			t.Fatal("Bytes", len(b))
		}
		x, e := dedup.Load(b)
		if e != c.want || (e == api.OK) != x.Same(d) || e != api.OK && x != nil {
			t.Error("of", len(b), "bytes", e)
		}
	}
}

// P12.3, P12.5, P7: whatever bytes are read as a table are just those that it writes; of others the error is the first one.
func TestLoadOfChangedBytes(t *testing.T) {
	rnd := rand.New(rand.NewSource(3))
	told := map[api.Errno]int{}
	for range 20000 {
		b := tableBytes(map[int]part{0: partOf(4, 5, 9, 300), 8: partOf(highest), 15: partOf(0, 1, 2)})
		for range 1 + rnd.Intn(2) {
			b[rnd.Intn(len(b))] ^= byte(1 << rnd.Intn(8))
		}
		if rnd.Intn(4) == 0 {
			b = b[:rnd.Intn(len(b))]
		}
		d, e := dedup.Load(b)
		told[e]++
		if want := loadError(b); e != want {
			t.Fatalf("%v and not %v: % x", e, want, b)
		}
		if e == api.OK && !bytes.Equal(d.Bytes(), b) {
			t.Fatalf("% x", b)
		}
		if e != api.OK && d != nil {
			t.Fatal("a table beside", e)
		}
	}
	for _, e := range []api.Errno{api.OK, api.ErrShort, api.ErrForm} {
		if told[e] < 200 {
			t.Error("too few", e, told[e])
		}
	}
}
