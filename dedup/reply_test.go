package dedup_test

import (
	"bytes"
	"math"
	"math/rand"
	"slices"
	"testing"

	"caisson/api"
	"caisson/dedup"
)

// P12.1: an answer, byte by byte.
func TestPutReplyByteByByte(t *testing.T) {
	for _, c := range []struct {
		r    api.Reply
		want []byte
	}{
		{api.Reply{}, []byte{0, 0, 0, 0, 0, 0}},
		{api.Reply{Status: 2, Key: 6, Asc: 0x2a, Ascq: 5}, []byte{2, 6, 0x2a, 5, 0, 0}},
		{api.Reply{Status: 255, Key: 254, Asc: 253, Ascq: 252, Data: []byte("ab")}, []byte{255, 254, 253, 252, 0, 2, 'a', 'b'}},
		{api.Reply{Data: make([]byte, 4096)}, append([]byte{0, 0, 0, 0, 0x10, 0}, make([]byte, 4096)...)},
	} {
		b, e := dedup.PutReply(c.r)
		if e != api.OK || !bytes.Equal(b, c.want) {
			t.Errorf("PutReply: % x %v", b, e)
		}
		if r, e := dedup.GetReply(c.want); e != api.OK || !sameReply(r, c.r) {
			t.Error("GetReply", r, e)
		}
	}
}

// P12.1: numbers and data out of their bounds, the numbers first.
func TestPutReplyBounds(t *testing.T) {
	for n, can := range map[int]bool{
		math.MinInt: false, -256: false, -1: false, 0: true, 1: true, 255: true, 256: false, 512: false, math.MaxInt: false,
	} {
		for field := range 4 {
			for _, size := range []int{0, 1, 4095, 4096, 4097, 65535, 65536, 65537} {
				r := api.Reply{Data: make([]byte, size)}
				*[]*int{&r.Status, &r.Key, &r.Asc, &r.Ascq}[field] = n
				want := api.OK
				if !can {
					want = api.ErrArg
				} else if size > 4096 {
					want = api.ErrSize
				}
				b, e := dedup.PutReply(r)
				if e != want || e != api.OK && b != nil || e == api.OK && !bytes.Equal(b, replyBytes(r)) {
					t.Error("PutReply", field, n, size, e)
				}
			}
		}
	}
}

// P12.1: bytes that are cut, longer, or have too many data.
func TestGetReplyErrors(t *testing.T) {
	some := replyBytes(api.Reply{Status: 2, Key: 3, Data: []byte("abc")})
	for n := range some {
		if r, e := dedup.GetReply(some[:n]); e != api.ErrShort || !isZero(r) {
			t.Error("cut to", n, r, e)
		}
	}
	most := replyBytes(api.Reply{Data: make([]byte, 4096)})
	over := replyBytes(api.Reply{Data: make([]byte, 4097)})
	all := replyBytes(api.Reply{Data: make([]byte, 65535)})
	for _, c := range []struct {
		name string
		b    []byte
		want api.Errno
	}{
		{"nil", nil, api.ErrShort},
		{"longer", append(slices.Clone(some), 0), api.ErrForm},
		{"most", most, api.OK},
		{"most, cut", most[:len(most)-1], api.ErrShort},
		{"most, longer", append(slices.Clone(most), 7), api.ErrForm},
		{"over", over, api.ErrSize},
		{"over, cut", over[:len(over)-1], api.ErrShort},
		{"over, longer", append(slices.Clone(over), 7), api.ErrForm},
		{"all", all, api.ErrSize},
		{"all, longer", append(slices.Clone(all), 7), api.ErrForm},
	} {
		if r, e := dedup.GetReply(c.b); e != c.want || e != api.OK && !isZero(r) {
			t.Error(c.name, e)
		}
	}
}

// P12.5, P7: an answer is read as it was written, and all bytes that are read are such.
func TestReplyAsItWasWritten(t *testing.T) {
	rnd := rand.New(rand.NewSource(1))
	taken := 0
	for range 5000 {
		r := api.Reply{Status: rnd.Intn(256), Key: rnd.Intn(256), Asc: rnd.Intn(256), Ascq: rnd.Intn(256), Data: make([]byte, rnd.Intn(200))}
		rnd.Read(r.Data)
		b, e := dedup.PutReply(r)
		if e != api.OK {
			t.Fatal("PutReply", e)
		}
		x, e := dedup.GetReply(b)
		if e != api.OK || !sameReply(x, r) {
			t.Fatal("GetReply", x, e)
		}
		b[rnd.Intn(len(b))] = byte(rnd.Intn(256))
		if x, e := dedup.GetReply(b); e == api.OK {
			taken++
			if again, e := dedup.PutReply(x); e != api.OK || !bytes.Equal(again, b) {
				t.Fatal("PutReply", e)
			}
		}
	}
	if taken < 1000 {
		t.Error("too few", taken)
	}
}

// P1: no two answers share memory, and none with what was handed in.
func TestReplySharesNothing(t *testing.T) {
	data := []byte("abc")
	r := api.Reply{Data: data}
	b, _ := dedup.PutReply(r)
	data[0] = 'x'
	x, _ := dedup.GetReply(b)
	b[6] = 'y'
	y, _ := dedup.GetReply(b)
	_ = append(b[:6], "zzz"...)
	if string(x.Data) != "abc" || string(y.Data) != "ybc" {
		t.Error(string(x.Data), string(y.Data))
	}
}
