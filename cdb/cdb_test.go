package cdb_test

import (
	"bytes"
	"math"
	"math/rand"
	"slices"
	"testing"

	"caisson/api"
	"caisson/cdb"
)

// The operations' numbers.
func TestNumbers(t *testing.T) {
	got := []int{cdb.TestUnitReady, cdb.RequestSense, cdb.Inquiry, cdb.ReadCapacity, cdb.Read10, cdb.Write10, cdb.Sync10, cdb.Unmap, cdb.PrIn, cdb.PrOut, cdb.Read16, cdb.Write16, cdb.ReportLuns, cdb.Ports}
	if !slices.Equal(got, operations()) {
		t.Errorf("%x", got)
	}
}

// P15.1: the size of each operation, and of all other numbers.
func TestSize(t *testing.T) {
	for op, want := range map[int]int{0x00: 6, 0x03: 6, 0x12: 6, 0x25: 10, 0x28: 10, 0x2a: 10, 0x35: 10, 0x42: 10, 0x5e: 10, 0x5f: 10, 0x88: 16, 0x8a: 16, 0xa0: 12, 0xa3: 12} {
		if got := cdb.Size(op); got != want {
			t.Errorf("Size of %x: %d", op, got)
		}
	}
	for _, op := range wrongOps() {
		if got := cdb.Size(op); got != 0 {
			t.Errorf("Size of %x: %d", op, got)
		}
	}
}

// P15.1: each operation, byte by byte, there and back; the document's example is among them.
func TestByteByByte(t *testing.T) {
	for _, x := range []struct {
		b []byte
		c cdb.Cdb
	}{
		{[]byte{0x00, 0, 0, 0, 0, 0, 0, 0, 0, 0, 0, 0, 0, 0, 0, 0}, cdb.Cdb{}},
		{[]byte{0x03, 0, 0, 0, 0xfe, 0, 0, 0, 0, 0, 0, 0, 0, 0, 0, 0}, cdb.Cdb{Op: cdb.RequestSense, Len: 254}},
		{[]byte{0x12, 0, 0, 0, 36, 0, 0, 0, 0, 0, 0, 0, 0, 0, 0, 0}, cdb.Cdb{Op: cdb.Inquiry, Len: 36}},
		{[]byte{0x12, 1, 0x83, 1, 2, 0, 0, 0, 0, 0, 0, 0, 0, 0, 0, 0}, cdb.Cdb{Op: cdb.Inquiry, Vital: true, Page: 131, Len: 258}},
		{[]byte{0x25, 0, 0, 0, 0, 0, 0, 0, 0, 0, 0, 0, 0, 0, 0, 0}, cdb.Cdb{Op: cdb.ReadCapacity}},
		{[]byte{0x28, 0, 0, 0, 0, 5, 0, 0, 2, 0, 0, 0, 0, 0, 0, 0}, cdb.Cdb{Op: cdb.Read10, Lba: 5, Len: 2}},
		{[]byte{0x2a, 0, 1, 2, 3, 4, 0, 5, 6, 0, 0, 0, 0, 0, 0, 0}, cdb.Cdb{Op: cdb.Write10, Lba: 0x01020304, Len: 0x0506}},
		{[]byte{0x35, 0, 0xff, 0xfe, 0xfd, 0xfc, 0, 0xfb, 0xfa, 0, 0, 0, 0, 0, 0, 0}, cdb.Cdb{Op: cdb.Sync10, Lba: 0xfffefdfc, Len: 0xfbfa}},
		{[]byte{0x42, 0, 0, 0, 0, 0, 0, 1, 8, 0, 0, 0, 0, 0, 0, 0}, cdb.Cdb{Op: cdb.Unmap, Len: 264}},
		{[]byte{0x5e, 0x1e, 0, 0, 0, 0, 0, 0xff, 0xfe, 0, 0, 0, 0, 0, 0, 0}, cdb.Cdb{Op: cdb.PrIn, Service: 30, Len: 65534}},
		{[]byte{0x5f, 0x1d, 0x0e, 0, 0, 0xfe, 2, 3, 4, 0, 0, 0, 0, 0, 0, 0}, cdb.Cdb{Op: cdb.PrOut, Service: 29, Type: 14, Len: 0xfe020304}},
		{[]byte{0x88, 0, 0xff, 2, 3, 4, 5, 6, 7, 8, 0xfd, 10, 11, 12, 0, 0}, cdb.Cdb{Op: cdb.Read16, Lba: 0xff02030405060708, Len: 0xfd0a0b0c}},
		{[]byte{0x8a, 0, 0, 0, 0, 0, 0, 0, 0, 9, 0, 0, 0, 1, 0, 0}, cdb.Cdb{Op: cdb.Write16, Lba: 9, Len: 1}},
		{[]byte{0xa0, 0, 2, 0, 0, 0, 1, 2, 3, 4, 0, 0, 0, 0, 0, 0}, cdb.Cdb{Op: cdb.ReportLuns, Page: 2, Len: 0x01020304}},
		{[]byte{0xa3, 10, 0, 0, 0, 0, 0xff, 0, 0, 1, 0, 0, 0, 0, 0, 0}, cdb.Cdb{Op: cdb.Ports, Service: 10, Len: 0xff000001}},
	} {
		if c, e := cdb.Parse(x.b); e != api.OK || c != x.c {
			t.Errorf("Parse of % x: %+v %v", x.b, c, e)
		}
		if b, e := cdb.Build(x.c); e != api.OK || !bytes.Equal(b, x.b) {
			t.Errorf("Build of %+v: % x %v", x.c, b, e)
		}
	}
	if c, e := cdb.Parse([]byte{0x28, 1, 0, 0, 0, 5, 0, 0, 2, 0, 0, 0, 0, 0, 0, 0}); e != api.ErrForm || c != (cdb.Cdb{}) {
		t.Error("with 01 at the byte 1:", c, e)
	}
}

// P15.1: other lengths than 16 are told ahead of all else that is wrong.
func TestParseOfOtherLengths(t *testing.T) {
	for _, first := range []byte{0x00, 0x28, 0x88, 0x01, 0xff} {
		for n := range 300 {
			b := bytes.Repeat([]byte{first}, n)
			if c, e := cdb.Parse(b); n != 16 && (e != api.ErrSize || c != (cdb.Cdb{})) {
				t.Errorf("%d times %x: %v %v", n, first, c, e)
			}
		}
	}
	if c, e := cdb.Parse(nil); e != api.ErrSize || c != (cdb.Cdb{}) {
		t.Error("nil:", c, e)
	}
	for _, op := range operations() {
		b, _ := cdb.Build(cdb.Cdb{Op: op})
		for _, l := range [][]byte{b[:cdb.Size(op)], b[:15], append(slices.Clone(b), 0)} {
			if c, e := cdb.Parse(l); len(l) != 16 && (e != api.ErrSize || c != (cdb.Cdb{})) {
				t.Errorf("% x: %v %v", l, c, e)
			}
		}
	}
}

// P15.1: operations that there are not are told ahead of bytes that are not 0.
func TestParseOfOtherOperations(t *testing.T) {
	for op := range 256 {
		for _, behind := range []byte{0, 1, 255} {
			b := bytes.Repeat([]byte{behind}, 16)
			b[0] = byte(op)
			_, e := sameParse(t, b)
			if none := pictures[op] == ""; none != (e == api.ErrArg) {
				t.Errorf("%x: %v", op, e)
			}
		}
	}
}

// P15.1: each bit that the table names is a field's, and each other one is refused, also beside fields.
func TestEveryBit(t *testing.T) {
	rnd := rand.New(rand.NewSource(1))
	for _, op := range operations() {
		named := 0
		for i := 8; i < 128; i++ {
			for _, from := range []cdb.Cdb{{Op: op}, anyCdb(rnd, op), anyCdb(rnd, op)} {
				b, _ := build(from)
				b[i/8] ^= 1 << (i % 8)
				c, e := sameParse(t, b)
				if masks[pictures[op][i/8]]>>(i%8)&1 == 0 {
					if e != api.ErrForm {
						t.Errorf("%x, bit %d: %v", op, i, e)
					}
					continue
				}
				if e != api.OK || c == from {
					t.Errorf("%x, bit %d: %v", op, i, e)
				}
				named++
			}
		}
		want := 0
		for i := range len(letters) {
			want += 3 * bits(op, letters[i])
		}
		if named != want {
			t.Errorf("%x: %d bits, not %d", op, named, want)
		}
	}
}

// P15.5, and P15.1: each byte that is changed, to each other value, is another command, or is refused.
func TestOneByteChanged(t *testing.T) {
	rnd := rand.New(rand.NewSource(2))
	for _, op := range operations() {
		for range 6 {
			from := anyCdb(rnd, op)
			b, e := sameBuild(t, from)
			if e != api.OK {
				t.Fatal(from, e)
			}
			for i := range b {
				was := b[i]
				for x := range 256 {
					b[i] = byte(x)
					if c, e := sameParse(t, b); b[i] != was && e == api.OK && c == from {
						t.Errorf("%+v: byte %d from %x to %x", from, i, was, x)
					}
				}
				b[i] = was
			}
		}
	}
}

// P15.1: each field at the bounds of its bits, beyond them, below 0, and where the operation does not have it.
func TestBuildBounds(t *testing.T) {
	sizes, forms := 0, 0
	for _, op := range operations() {
		for i := range len(letters) {
			has := bits(op, letters[i])
			for _, n := range []int{math.MinInt, math.MinInt + 1, -1 << 32, -65536, -256, -2, -1, 0, 1, 2, 15, 16, 31, 32, 255, 256, 257, 65535, 65536, 65537, 1<<32 - 1, 1 << 32, 1<<32 + 1, math.MaxInt} {
				c := set(cdb.Cdb{Op: op}, letters[i], uint64(n))
				b, e := sameBuild(t, c)
				_, below := get(c, letters[i])
				says, _ := get(c, letters[i])
				want := api.OK
				switch {
				case has == 0 && says != 0:
					want = api.ErrForm
					forms++
				case has > 0 && (below || has < 64 && says>>has != 0):
					want = api.ErrSize
					sizes++
				}
				if e != want {
					t.Errorf("%x, %c %d: %v, not %v", op, letters[i], n, e, want)
				}
				if e != api.OK {
					continue
				}
				if back, e := cdb.Parse(b); e != api.OK || back != c {
					t.Errorf("%x, %c %d: %+v %v", op, letters[i], n, back, e)
				}
			}
		}
	}
	if sizes < 100 || forms < 500 {
		t.Error("too few", sizes, forms)
	}
}

// P15.1: of several errors the first one.
func TestBuildErrorsInOrder(t *testing.T) {
	for _, op := range wrongOps() {
		for _, c := range []cdb.Cdb{{Op: op}, {Op: op, Len: -1}, {Op: op, Service: 1, Page: 1, Vital: true, Type: 1, Lba: 1, Len: 1}, {Op: op, Lba: math.MaxUint64, Len: math.MaxInt}} {
			if b, e := cdb.Build(c); e != api.ErrArg || b != nil {
				t.Errorf("%+v: %v", c, e)
			}
		}
	}
	for _, c := range []cdb.Cdb{
		{Op: cdb.Read10, Vital: true, Len: 65536}, {Op: cdb.Read10, Service: 1, Lba: 1 << 32}, {Op: cdb.Read10, Page: -1, Len: -1},
		{Op: cdb.PrOut, Type: 16, Lba: 1}, {Op: cdb.PrOut, Service: 32, Page: 1}, {Op: cdb.Inquiry, Page: 256, Type: 1}, {Op: cdb.RequestSense, Service: -1, Len: 256},
	} {
		if b, e := cdb.Build(c); e != api.ErrSize || b != nil {
			t.Errorf("%+v: %v", c, e)
		}
	}
	for _, c := range []cdb.Cdb{
		{Op: cdb.TestUnitReady, Len: -1}, {Op: cdb.TestUnitReady, Vital: true}, {Op: cdb.ReadCapacity, Lba: 1}, {Op: cdb.Read16, Type: -1}, {Op: cdb.Unmap, Lba: math.MaxUint64},
		{Op: cdb.Ports, Page: 1}, {Op: cdb.ReportLuns, Service: math.MinInt}, {Op: cdb.PrIn, Type: 1}, {Op: cdb.Read10, Vital: true},
	} {
		if b, e := cdb.Build(c); e != api.ErrForm || b != nil {
			t.Errorf("%+v: %v", c, e)
		}
	}
}

// P15.1, P15.4: commands with fields of any kind, against the pictures.
func TestBuildAtRandom(t *testing.T) {
	rnd := rand.New(rand.NewSource(3))
	ops := operations()
	errors := map[api.Errno]int{}
	for range 60000 {
		c := anyCdb(rnd, ops[rnd.Intn(len(ops))])
		for range rnd.Intn(3) {
			c = set(c, letters[rnd.Intn(len(letters))], rnd.Uint64()>>rnd.Intn(64))
		}
		if rnd.Intn(10) == 0 {
			c.Op = rnd.Intn(300) - 20
		}
		b, e := sameBuild(t, c)
		errors[e]++
		if e != api.OK {
			continue
		}
		if back, e := sameParse(t, b); e != api.OK || back != c {
			t.Fatalf("%+v: %+v %v", c, back, e)
		}
	}
	for _, e := range []api.Errno{api.OK, api.ErrArg, api.ErrSize, api.ErrForm} {
		if errors[e] < 1000 {
			t.Error("too few", e, errors[e])
		}
	}
}

// P15.4 (P7): whatever bytes are a command are just those that it has; others are refused.
func TestParseAtRandom(t *testing.T) {
	rnd := rand.New(rand.NewSource(4))
	ops := operations()
	taken := 0
	for range 60000 {
		b := make([]byte, 16)
		b[0] = byte(ops[rnd.Intn(len(ops))])
		for range rnd.Intn(6) {
			b[rnd.Intn(16)] = byte(rnd.Intn(256))
		}
		c, e := sameParse(t, b)
		if e != api.OK {
			continue
		}
		taken++
		if back, e := sameBuild(t, c); e != api.OK || !bytes.Equal(back, b) {
			t.Fatalf("% x: % x %v", b, back, e)
		}
	}
	if taken < 5000 {
		t.Error("too few", taken)
	}
}

// P15.2: how many data come, and go, by each operation and length.
func TestOutAndIn(t *testing.T) {
	const most = 1 << 40
	lengths := []int{math.MinInt, math.MinInt + 1, -1 << 40, -65, -1, 0, 1, 2, 63, 64, 65, 255, 65535, 65536, 1<<32 - 1, 1<<34 - 1, 1 << 34, 1<<34 + 1, 1<<40 - 1, 1 << 40, 1<<40 + 1, 1 << 57, 1 << 58, 1 << 60, 1<<62 + 1, math.MaxInt - 1, math.MaxInt}
	for _, n := range lengths {
		plain := min(max(n, 0), most)
		blocks := most
		if n < 1<<34 {
			blocks = 64 * max(n, 0)
		}
		eight := 8
		if n < 0 {
			eight = 0
		}
		out := map[int]int{cdb.Write10: blocks, cdb.Write16: blocks, cdb.Unmap: plain, cdb.PrOut: plain}
		in := map[int]int{cdb.Read10: blocks, cdb.Read16: blocks, cdb.ReadCapacity: eight, cdb.RequestSense: plain, cdb.Inquiry: plain, cdb.PrIn: plain, cdb.ReportLuns: plain, cdb.Ports: plain}
		for _, op := range append(operations(), wrongOps()...) {
			for _, c := range []cdb.Cdb{{Op: op, Len: n}, {Op: op, Len: n, Service: -1, Page: 300, Vital: true, Type: math.MinInt, Lba: math.MaxUint64}} {
				if got := cdb.Out(c); got != out[op] {
					t.Errorf("Out of %+v: %d, not %d", c, got, out[op])
				}
				if got := cdb.In(c); got != in[op] {
					t.Errorf("In of %+v: %d, not %d", c, got, in[op])
				}
			}
		}
	}
}

// P15.2: the document's example.
func TestInOfTheExample(t *testing.T) {
	c, _ := cdb.Parse([]byte{0x28, 0, 0, 0, 0, 5, 0, 0, 2, 0, 0, 0, 0, 0, 0, 0})
	if cdb.In(c) != 128 || cdb.Out(c) != 0 {
		t.Error(cdb.In(c), cdb.Out(c))
	}
}

// Rules 4 to 6: what is built is new memory each time.
func TestBuildIsNew(t *testing.T) {
	c := cdb.Cdb{Op: cdb.Read10, Lba: 5, Len: 2}
	a, _ := cdb.Build(c)
	b, _ := cdb.Build(c)
	clear(a)
	_ = append(a, 1, 2, 3)
	if x, e := cdb.Parse(b); e != api.OK || x != c {
		t.Error(x, e)
	}
	if d, _ := cdb.Build(c); !bytes.Equal(b, d) {
		t.Errorf("% x, % x", b, d)
	}
}
