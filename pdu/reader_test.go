package pdu_test

import (
	"bytes"
	"math/rand"
	"slices"
	"testing"

	"caisson/api"
	"caisson/pdu"
)

// P17.2: what can be agreed on, and a Reader of no bytes.
func TestNew(t *testing.T) {
	for _, o := range wrongOpts() {
		if r, e := pdu.New(o); e != api.ErrArg || r != nil {
			t.Errorf("%+v: %v", o, e)
		}
	}
	for _, most := range []int{48, 49, 8192, 65535, 65536} {
		for _, o := range four(most) {
			r := reader(t, o)
			shows(t, r, 0, false)
			waits(t, r, 0)
		}
	}
}

// P17.2: nil Readers.
func TestNil(t *testing.T) {
	var r *pdu.Reader
	if e := r.Feed([]byte{1}); e != api.ErrNil {
		t.Error("Feed", e)
	}
	if e := r.Feed(make([]byte, most+1)); e != api.ErrNil {
		t.Error("Feed", e)
	}
	for _, o := range []pdu.Opts{{Most: 48}, {}} {
		if e := r.Set(o); e != api.ErrNil {
			t.Error("Set", e)
		}
	}
	if p, e, ok := r.Next(); !same(p, pdu.Pdu{}) || e != api.ErrNil || !ok {
		t.Error("Next", p, e, ok)
	}
	if r.Left() != 0 || r.Dead() {
		t.Error(r.Left(), r.Dead())
	}
}

// A Reader that nobody made has agreed on nothing: it reads letters without data, and does not panic.
func TestReaderOfNothing(t *testing.T) {
	r := &pdu.Reader{}
	feeds(t, r, put(t, pdu.Pdu{Op: 1}, pdu.Opts{Most: 48}))
	tells(t, r, pdu.Pdu{Op: 1}, api.OK, 0)
	feeds(t, r, put(t, pdu.Pdu{Data: []byte{1}}, pdu.Opts{Most: 48}))
	dies(t, r, api.ErrSize)
}

// letters are some letters, with data of lengths that end at each place of four bytes, and none.
func letters(rnd *rand.Rand) []pdu.Pdu {
	var l []pdu.Pdu
	for _, n := range []int{0, 1, 0, 2, 3, 4, 5, 100, 0} {
		l = append(l, anyPdu(rnd, n))
	}
	return l
}

// P17.3, P17.4: letters in pieces of every size, in all four ways, are told as soon as they are whole, and not sooner.
func TestPieces(t *testing.T) {
	rnd := rand.New(rand.NewSource(1))
	for _, o := range four(100) {
		l := letters(rnd)
		var all []byte
		var ends []int
		for _, p := range l {
			all = append(all, put(t, p, o)...)
			ends = append(ends, len(all))
		}
		for size := 1; size <= len(all); size++ {
			r := reader(t, o)
			told, came := 0, 0
			for piece := range slices.Chunk(all, size) {
				feeds(t, r, piece)
				came += len(piece)
				for told < len(l) && ends[told] <= came {
					tells(t, r, l[told], api.OK, came-ends[told])
					told++
				}
				begin := 0
				if told > 0 {
					begin = ends[told-1]
				}
				waits(t, r, came-begin)
			}
			if told != len(l) {
				t.Fatalf("%d of %d", told, len(l))
			}
		}
	}
}

// P17.3: several letters at once, told one behind the other, bytes of the next one left.
func TestSeveralAtOnce(t *testing.T) {
	rnd := rand.New(rand.NewSource(2))
	for _, o := range four(65536) {
		l := append(letters(rnd), anyPdu(rnd, 65536), anyPdu(rnd, 50000))
		var all []byte
		for _, p := range l {
			all = append(all, put(t, p, o)...)
		}
		r := fed(t, o, append(slices.Clone(all), 1, 2, 3))
		left := len(all) + 3
		for _, p := range l {
			left -= len(written(p, o))
			tells(t, r, p, api.OK, left)
		}
		waits(t, r, 3)
	}
}

// P17.3: a head whose digest is wrong by any bit of either.
func TestHeadSumWrong(t *testing.T) {
	rnd := rand.New(rand.NewSource(3))
	for _, n := range []int{0, 5} {
		for _, o := range four(100) {
			if !o.HeadSum {
				continue
			}
			b := put(t, anyPdu(rnd, n), o)
			for bit := range 52 * 8 {
				c := slices.Clone(b)
				c[bit/8] ^= 1 << (bit % 8)
				r := fed(t, o, append(c, b...))
				dies(t, r, api.ErrSum)
				dies(t, fed(t, o, c[:52]), api.ErrSum) // it does not wait for the data
				waits(t, fed(t, o, c[:51]), 51)
			}
		}
	}
}

// P17.3: additional heads, and the highest bit; each of them with a digest that is right.
func TestHeadForm(t *testing.T) {
	rnd := rand.New(rand.NewSource(4))
	for _, o := range four(100) {
		for _, n := range []int{0, 5} {
			for i := range 257 {
				c := put(t, anyPdu(rnd, n), o)
				if i < 256 {
					c[4] = byte(i)
				} else {
					c[0] |= 128
				}
				if o.HeadSum {
					copy(c[48:], digestOf(c[:48]))
				}
				r := fed(t, o, c)
				if i == 0 {
					if _, e, ok := r.Next(); e != api.OK || !ok {
						t.Fatal(e, ok)
					}
					continue
				}
				dies(t, r, api.ErrForm)
			}
		}
	}
}

// headOf is a head that says n data, with its digest, if it was agreed on.
func headOf(first, more byte, n int, o pdu.Opts) []byte {
	b := make([]byte, 48)
	b[0], b[4], b[5], b[6], b[7] = first, more, byte(n>>16), byte(n>>8), byte(n)
	if o.HeadSum {
		b = append(b, digestOf(b)...)
	}
	return b
}

// P17.3: more data than Most are told as soon as the head is there; as many as Most are waited for.
func TestTooManyData(t *testing.T) {
	for _, most := range []int{48, 49, 255, 256, 8192, 65535, 65536} {
		for _, o := range four(most) {
			for _, n := range []int{most + 1, most + 2, most + 4, 1<<24 - 1} {
				dies(t, fed(t, o, headOf(1, 0, n, o)), api.ErrSize)
				dies(t, fed(t, o, append(headOf(1, 0, n, o), make([]byte, 60000)...)), api.ErrSize)
			}
			head := headOf(1, 0, most, o)
			waits(t, fed(t, o, head), len(head))
			p := pdu.Pdu{Op: 1, Data: bytes.Repeat([]byte{7}, most)}
			b := put(t, p, o)
			r := fed(t, o, b[:len(b)-1])
			waits(t, r, len(b)-1)
			feeds(t, r, b[len(b)-1:])
			tells(t, r, p, api.OK, 0)
		}
	}
}

// P17.3: of several errors of a head the first one.
func TestHeadErrorsInOrder(t *testing.T) {
	o := pdu.Opts{HeadSum: true, DataSum: true, Most: 48}
	wrong := headOf(129, 1, 49, o)
	wrong[51] ^= 1
	dies(t, fed(t, o, wrong), api.ErrSum)
	wrong = headOf(1, 0, 49, o)
	wrong[48] ^= 1
	dies(t, fed(t, o, wrong), api.ErrSum)
	dies(t, fed(t, o, headOf(129, 0, 49, o)), api.ErrForm)
	dies(t, fed(t, o, headOf(1, 1, 49, o)), api.ErrForm)
	dies(t, fed(t, o, headOf(1, 0, 49, o)), api.ErrSize)
	dies(t, fed(t, pdu.Opts{Most: 48}, headOf(128, 0, 1<<24-1, pdu.Opts{})), api.ErrForm)
}

// bare is a letter as it is told with an error.
func bare(p pdu.Pdu) pdu.Pdu {
	p.Data = nil
	return p
}

// P17.3: data whose digest is wrong by any bit of either, or of the 0 behind them: the letter is told without them, and the next one is read.
func TestDataSumWrong(t *testing.T) {
	rnd := rand.New(rand.NewSource(5))
	for _, o := range four(100) {
		if !o.DataSum {
			continue
		}
		for n := 1; n <= 8; n++ {
			p, q := anyPdu(rnd, n), anyPdu(rnd, 3)
			b, d := put(t, p, o), put(t, q, o)
			behind := len(b) - len(bodyOf(p.Data, o))
			for bit := behind * 8; bit < len(b)*8; bit++ {
				c := slices.Clone(b)
				c[bit/8] ^= 1 << (bit % 8)
				r := fed(t, o, append(c, d...))
				tells(t, r, bare(p), api.ErrSum, len(d))
				tells(t, r, q, api.OK, 0)
				r = fed(t, o, c[:len(c)-1])
				waits(t, r, len(c)-1)
			}
		}
	}
}

// P17.3: bytes behind the data that are not 0, in all four ways, with a digest that is right; and with that of the 0, which is wrong.
func TestBytesBehindTheData(t *testing.T) {
	rnd := rand.New(rand.NewSource(6))
	for _, o := range four(100) {
		for _, n := range []int{1, 2, 3, 5, 98, 99} {
			p, q := anyPdu(rnd, n), anyPdu(rnd, 0)
			d := put(t, q, o)
			for i := range (4 - n%4) * 8 {
				c := put(t, p, o)
				behind := len(c) - len(bodyOf(p.Data, o))
				end := behind + (n+3)/4*4
				c[behind+n+i/8] ^= 1 << (i % 8)
				if o.DataSum {
					r := fed(t, o, append(slices.Clone(c), d...))
					tells(t, r, bare(p), api.ErrSum, len(d))
					copy(c[end:], digestOf(c[behind:end]))
				}
				r := fed(t, o, append(slices.Clone(c), d...))
				tells(t, r, bare(p), api.ErrForm, len(d))
				tells(t, r, q, api.OK, 0)
			}
		}
	}
}

// P17.2: up to 131072 bytes wait, be it at once or in pieces; one more is too many.
func TestFull(t *testing.T) {
	o := pdu.Opts{Most: 65536}
	for _, size := range []int{1, 1000, 4096, 65536, most} {
		r := reader(t, o)
		for piece := range slices.Chunk(make([]byte, most), size) {
			feeds(t, r, piece)
		}
		shows(t, r, most, false)
		feeds(t, r, nil)
		shows(t, r, most, false)
		if e := r.Feed([]byte{0}); e != api.ErrFull {
			t.Fatal(e)
		}
		isDead(t, r)
	}
	for _, n := range []int{most + 1, most + 2, 2 * most, 1 << 20} {
		r := reader(t, o)
		if e := r.Feed(make([]byte, n)); e != api.ErrFull {
			t.Fatal(e)
		}
		isDead(t, r)
	}
	r := fed(t, o, []byte{1})
	if e := r.Feed(make([]byte, most)); e != api.ErrFull {
		t.Fatal(e)
	}
	isDead(t, r)
}

// P17.2, P17.5: what was told waits no more, so that there is room again, as often as one likes.
func TestRoomAgain(t *testing.T) {
	o := pdu.Opts{Most: 48}
	b := make([]byte, most) // as many letters as go in, and 32 bytes of another one
	r := fed(t, o, b)
	for range most / 48 {
		if _, e, ok := r.Next(); e != api.OK || !ok {
			t.Fatal(e, ok)
		}
	}
	waits(t, r, most%48)
	feeds(t, r, b[:most-most%48])
	shows(t, r, most, false)
	for i := range most / 48 {
		tells(t, r, pdu.Pdu{}, api.OK, most-(i+1)*48)
	}
	waits(t, r, most%48)
	if e := r.Feed(b[:most-most%48+1]); e != api.ErrFull {
		t.Error(e)
	}
	isDead(t, r)
}

// P17.2: what is agreed on can change between two letters, while one is on its way, and while several wait.
func TestSet(t *testing.T) {
	rnd := rand.New(rand.NewSource(7))
	for _, from := range four(100) {
		for _, to := range four(60000) {
			p, q := anyPdu(rnd, 7), anyPdu(rnd, 50001)
			b, d := put(t, p, from), put(t, q, to)
			r := fed(t, from, append(slices.Clone(b), d...))
			tells(t, r, p, api.OK, len(d))
			if e := r.Set(to); e != api.OK {
				t.Fatal(e)
			}
			shows(t, r, len(d), false)
			tells(t, r, q, api.OK, 0)
			// the head was looked at, but not told
			p = anyPdu(rnd, 70)
			d = put(t, p, to)
			r = reader(t, pdu.Opts{HeadSum: to.HeadSum, DataSum: !to.DataSum, Most: 100})
			feeds(t, r, d[:60])
			waits(t, r, 60)
			if e := r.Set(to); e != api.OK {
				t.Fatal(e)
			}
			feeds(t, r, d[60:])
			tells(t, r, p, api.OK, 0)
		}
	}
}

// P17.2: a Set that is refused changes nothing; one to fewer data holds for letters that wait already.
func TestSetRefused(t *testing.T) {
	o := pdu.Opts{HeadSum: true, DataSum: true, Most: 100}
	p := pdu.Pdu{Op: 3, Data: []byte("abc")}
	r := fed(t, o, put(t, p, o))
	for _, wrong := range wrongOpts() {
		if e := r.Set(wrong); e != api.ErrArg {
			t.Errorf("%+v: %v", wrong, e)
		}
		shows(t, r, 60, false)
	}
	tells(t, r, p, api.OK, 0)
	p.Data = make([]byte, 49)
	for _, c := range []struct {
		most int
		want api.Errno
	}{{48, api.ErrSize}, {49, api.OK}} {
		r = fed(t, o, put(t, p, o))
		if e := r.Set(pdu.Opts{HeadSum: true, DataSum: true, Most: c.most}); e != api.OK {
			t.Fatal(e)
		}
		if c.want != api.OK {
			dies(t, r, c.want)
			continue
		}
		tells(t, r, p, api.OK, 0)
	}
}

// Rules 4 and 5: what was fed is not kept and not changed, and data that are told share memory with nothing.
func TestSharesNothing(t *testing.T) {
	o := pdu.Opts{HeadSum: true, DataSum: true, Most: 100}
	p := pdu.Pdu{Op: 5, Data: []byte("abcdefg")}
	b := put(t, p, o)
	one := append(slices.Clone(b), b...)
	three := append(slices.Clone(one), b...)
	r := fed(t, o, three)
	if !bytes.Equal(three, append(one, b...)) {
		t.Fatal("Feed has changed what it was given")
	}
	for i := range three {
		three[i] = 255
	}
	first, e, ok := r.Next()
	if e != api.OK || !ok || !same(first, p) {
		t.Fatal(first, e, ok)
	}
	grown := append(first.Data, bytes.Repeat([]byte{255}, 200)...)
	for i := range grown {
		grown[i] = 255
	}
	for i := range first.Data {
		first.Data[i] = 255
	}
	second, e, ok := r.Next()
	if e != api.OK || !ok || !same(second, p) {
		t.Fatal(second, e, ok)
	}
	feeds(t, r, b)
	tells(t, r, p, api.OK, len(b))
	tells(t, r, p, api.OK, 0)
	if !same(second, p) {
		t.Error("what was told has changed", second)
	}
}
