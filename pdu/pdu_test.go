package pdu_test

import (
	"bytes"
	"math"
	"math/rand"
	"slices"
	"testing"

	"caisson/api"
	"caisson/pdu"
)

// The sizes that have names.
func TestNumbers(t *testing.T) {
	if pdu.Head != 48 || pdu.Words != 7 {
		t.Error(pdu.Head, pdu.Words)
	}
}

// P17.1: the operations, and all other numbers.
func TestKnown(t *testing.T) {
	initiator := []int{0, 1, 2, 3, 4, 5, 6, 16}
	target := []int{32, 33, 34, 35, 36, 37, 38, 49, 50, 63}
	ops := []int{math.MinInt, math.MinInt + 1, math.MaxInt, 1 << 32, 1<<32 + 1, 1<<32 + 32, -1<<32 + 5, -1 << 31, 0x10ffff, 0xfffd}
	for op := -300; op < 70000; op++ {
		ops = append(ops, op)
	}
	for _, op := range ops {
		there, first := pdu.Known(op)
		if first != slices.Contains(initiator, op) || there != (first || slices.Contains(target, op)) {
			t.Errorf("Known of %d: %v %v", op, there, first)
		}
	}
}

// P17.1: the document's example.
func TestPutOfTheExample(t *testing.T) {
	want := make([]byte, 48)
	want[0], want[19] = 0x40, 5
	if b, e := pdu.Put(pdu.Pdu{Now: true, Task: 5}, pdu.Opts{Most: 48}); e != api.OK || !bytes.Equal(b, want) {
		t.Errorf("% x %v", b, e)
	}
}

// P17.1: each byte of a letter, in all four ways.
func TestPutByteByByte(t *testing.T) {
	p := pdu.Pdu{Op: 0x25, Now: true, Flags: 0x81, B2: 0xfe, B3: 0x03, Lun: 0xf102030405060708, Task: 0xf90a0b0c, W: [7]uint32{0xfd0e0f10, 0x11121314, 0x15161718, 0x191a1b1c, 0x1d1e1f20, 0x21222324, 0xf5262728}, Data: []byte("abcde")}
	head := []byte{0x65, 0x81, 0xfe, 0x03, 0, 0, 0, 5, 0xf1, 2, 3, 4, 5, 6, 7, 8, 0xf9, 10, 11, 12}
	for i := byte(13); i <= 40; i++ {
		head = append(head, i)
	}
	head[20], head[44] = 0xfd, 0xf5
	body := []byte("abcde\x00\x00\x00")
	for _, o := range four(5 + 48) {
		want := slices.Clone(head)
		if o.HeadSum {
			want = append(want, digestOf(head)...)
		}
		want = append(want, body...)
		if o.DataSum {
			want = append(want, digestOf(body)...)
		}
		if b, e := pdu.Put(p, o); e != api.OK || !bytes.Equal(b, want) {
			t.Errorf("%+v: % x %v", o, b, e)
		}
	}
	// the library's sum against bytes that stand in the document of the sums: 32 times 0
	if d := digestOf(make([]byte, 32)); !bytes.Equal(d, []byte{0xaa, 0x36, 0x91, 0x8a}) {
		t.Errorf("% x", d)
	}
}

// P17.1: letters of any kind and any length of data; without data there is no digest of them.
func TestPutAtRandom(t *testing.T) {
	rnd := rand.New(rand.NewSource(1))
	for _, o := range four(65536) {
		lengths := []int{255, 256, 257, 4095, 65533, 65534, 65535, 65536}
		for n := range 70 {
			lengths = append(lengths, n)
		}
		for _, n := range lengths {
			p := anyPdu(rnd, n)
			was := slices.Clone(p.Data)
			b := put(t, p, o)
			if !bytes.Equal(b, written(p, o)) {
				t.Fatalf("%d data, %+v: % x..", n, o, b[:52])
			}
			if !bytes.Equal(p.Data, was) {
				t.Fatal("Put has changed the data")
			}
		}
	}
	if b := put(t, pdu.Pdu{}, pdu.Opts{HeadSum: true, DataSum: true, Most: 48}); len(b) != 52 {
		t.Error("no data:", len(b))
	}
}

// P17.1: an operation, and bytes, at and beyond their bounds.
func TestPutBounds(t *testing.T) {
	o := pdu.Opts{Most: 48}
	numbers := []int{math.MinInt, math.MinInt + 1, -1 << 32, -256, -255, -64, -2, -1, 0, 1, 2, 62, 63, 64, 65, 127, 128, 254, 255, 256, 257, 65535, 65536, 1 << 32, 1<<32 + 1, math.MaxInt}
	for _, n := range numbers {
		for i, p := range []pdu.Pdu{{Op: n}, {Flags: n}, {B2: n}, {B3: n}} {
			highest := 255
			if i == 0 {
				highest = 63
			}
			b, e := pdu.Put(p, o)
			if n >= 0 && n <= highest {
				if e != api.OK || !bytes.Equal(b, written(p, o)) {
					t.Errorf("%+v: % x %v", p, b, e)
				}
			} else if e != api.ErrArg || b != nil {
				t.Errorf("%+v: % x %v", p, b, e)
			}
			p.Data = make([]byte, 49)
			if _, e := pdu.Put(p, o); (e == api.ErrArg) != (n < 0 || n > highest) {
				t.Errorf("%+v with too many data: %v", p, e)
			}
		}
	}
}

// P17.1: what can not be agreed on, ahead of too many data; and data up to Most.
func TestPutOptions(t *testing.T) {
	for _, o := range wrongOpts() {
		for _, p := range []pdu.Pdu{{}, {Op: 64}, {Data: make([]byte, 70000)}, {Data: []byte{1}}} {
			if b, e := pdu.Put(p, o); e != api.ErrArg || b != nil {
				t.Errorf("%+v: % x %v", o, b, e)
			}
		}
	}
	for _, most := range []int{48, 49, 50, 51, 52, 100, 8192, 65535, 65536} {
		for _, o := range four(most) {
			if b, e := pdu.Put(pdu.Pdu{Data: make([]byte, most)}, o); e != api.OK || !bytes.Equal(b, written(pdu.Pdu{Data: make([]byte, most)}, o)) {
				t.Errorf("%d data with %+v: %v", most, o, e)
			}
			for _, n := range []int{most + 1, most + 2, most + 3, most + 4, 1 << 20} {
				if b, e := pdu.Put(pdu.Pdu{Data: make([]byte, n)}, o); e != api.ErrSize || b != nil {
					t.Errorf("%d data with %+v: %v", n, o, e)
				}
			}
		}
	}
}

// Rules 4 to 6: what Put answers is new memory each time, and nothing is written behind the data that it is given.
func TestPutIsNew(t *testing.T) {
	for _, n := range []int{0, 4, 11} {
		room := bytes.Repeat([]byte{9}, 100)
		p, o := pdu.Pdu{Op: 5, Data: room[:n]}, pdu.Opts{HeadSum: true, DataSum: true, Most: 48}
		a, b := put(t, p, o), put(t, p, o)
		for i := range a {
			a[i] = 255
		}
		_ = append(a, 1, 2, 3)
		if !bytes.Equal(b, written(p, o)) || !bytes.Equal(b, put(t, p, o)) {
			t.Errorf("%d data: % x", n, b)
		}
		if !bytes.Equal(room, bytes.Repeat([]byte{9}, 100)) {
			t.Errorf("%d data: % x", n, room)
		}
	}
}
