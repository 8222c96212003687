package pdu_test

import (
	"bytes"
	"math/rand"
	"slices"
	"testing"

	"caisson/api"
	"caisson/pdu"
)

// anyOpts are some that can be, or, seldom, not.
func anyOpts(rnd *rand.Rand) pdu.Opts {
	o := four([]int{48, 60, 100, 65536}[rnd.Intn(4)])[rnd.Intn(4)]
	if rnd.Intn(10) == 0 {
		o.Most = []int{0, -1, 47, 65537}[rnd.Intn(4)]
	}
	return o
}

// anyBytes are what may come: a letter or more, whole or in part, as they were agreed on or not, with bits turned or not.
func anyBytes(rnd *rand.Rand, o pdu.Opts) []byte {
	var b []byte
	for range 1 + rnd.Intn(3) {
		if rnd.Intn(20) == 0 {
			o = anyOpts(rnd)
		}
		p := anyPdu(rnd, rnd.Intn(62))
		if rnd.Intn(3) == 0 {
			p.Data = nil
		}
		b = append(b, written(p, o)...)
	}
	if rnd.Intn(3) == 0 {
		b[rnd.Intn(len(b))] ^= 1 << rnd.Intn(8)
	}
	if rnd.Intn(12) == 0 {
		b = b[rnd.Intn(len(b)):]
	}
	if rnd.Intn(100) == 0 {
		b = noise(rnd, 60000)
	}
	return b
}

// agree holds all that a Reader tells against the model, until no letter is there, and counts the answers by their errors.
func agree(t *testing.T, r *pdu.Reader, m *model, seen map[api.Errno]int) {
	t.Helper()
	for {
		before := slices.Clone(m.waiting)
		want, wantE, wantOk := m.next()
		p, e, ok := r.Next()
		if e != wantE || ok != wantOk || !same(p, want) || r.Left() != len(m.waiting) || r.Dead() != m.dead {
			t.Fatalf("%+v %v %v, not %+v %v %v", p, e, ok, want, wantE, wantOk)
		}
		if !ok || m.dead {
			seen[e]++
			return
		}
		seen[e]++
		if e != api.OK {
			continue
		}
		// what is told is written as the bytes that it was (P17.4)
		b, e := pdu.Put(p, m.o)
		if e != api.OK || !bytes.Equal(b, before[:len(before)-len(m.waiting)]) {
			t.Fatalf("Put of %+v: %v", p, e)
		}
	}
}

// run feeds a Reader and the model beside it, until both are dead or enough has come; without asks letters are left to wait.
func run(t *testing.T, rnd *rand.Rand, asks bool, seen map[api.Errno]int) {
	t.Helper()
	m := &model{o: four([]int{48, 60, 100, 65536}[rnd.Intn(4)])[rnd.Intn(4)]}
	r := reader(t, m.o)
	for range 1 + rnd.Intn(12) {
		if rnd.Intn(8) == 0 {
			o := anyOpts(rnd)
			if e, want := r.Set(o), m.set(o); e != want {
				t.Fatalf("Set of %+v: %v, not %v", o, e, want)
			}
		}
		b := anyBytes(rnd, m.o)
		if !asks {
			b = noise(rnd, 1+rnd.Intn(40000))
		}
		for piece := range slices.Chunk(b, 1+rnd.Intn(len(b))) {
			e, want := r.Feed(piece), m.feed(piece)
			if e != want || r.Left() != len(m.waiting) || r.Left() > most || r.Dead() != m.dead {
				t.Fatalf("Feed of %d: %v, not %v", len(piece), e, want)
			}
			if e != api.OK {
				seen[e]++
			}
			if asks && rnd.Intn(3) > 0 {
				agree(t, r, m, seen)
			}
			if m.dead {
				isDead(t, r)
				return
			}
		}
	}
	agree(t, r, m, seen)
}

// P17.2 to P17.5: Readers beside the model, with bytes of any kind, in pieces of any size.
func TestAtRandom(t *testing.T) {
	rnd := rand.New(rand.NewSource(8))
	seen := map[api.Errno]int{}
	for i := range 12000 {
		run(t, rnd, i%30 > 0, seen)
	}
	for _, e := range []api.Errno{api.OK, api.ErrSum, api.ErrForm, api.ErrSize, api.ErrFull} {
		if seen[e] < 100 {
			t.Error("too few", e, seen[e])
		}
	}
}

// P17.5 (P6): whatever comes, no more bytes wait than may, and whoever asks until there is none has fewer than a letter's waiting.
func TestBoundOfWhatWaits(t *testing.T) {
	rnd := rand.New(rand.NewSource(9))
	for _, o := range four(65536) {
		r := reader(t, o)
		for range 60 {
			feeds(t, r, put(t, anyPdu(rnd, rnd.Intn(65537)), o))
			for ok := true; ok; {
				_, _, ok = r.Next()
			}
			shows(t, r, 0, false)
		}
		for range 100000 {
			r.Feed(noise(rnd, 500))
			if r.Left() > most {
				t.Fatal(r.Left())
			}
			if r.Dead() {
				break
			}
		}
		isDead(t, r)
	}
	// the longest letter there is goes in, all but its last byte, and then it is told
	o := pdu.Opts{HeadSum: true, DataSum: true, Most: 65536}
	p := anyPdu(rnd, 65536)
	b := put(t, p, o)
	r := fed(t, o, b[:len(b)-1])
	waits(t, r, 48+4+65536+4-1)
	feeds(t, r, b[len(b)-1:])
	tells(t, r, p, api.OK, 0)
}

// P17.4 (P7): letters of each operation, there and back; and no other byte of a letter is told as the same letter.
func TestThereAndBack(t *testing.T) {
	rnd := rand.New(rand.NewSource(10))
	for _, o := range four(100) {
		for op := range 64 {
			for n := range 5 {
				p := anyPdu(rnd, n)
				p.Op = op
				tells(t, fed(t, o, put(t, p, o)), p, api.OK, 0)
			}
		}
		p := anyPdu(rnd, 5)
		b := put(t, p, o)
		for i := range b {
			for x := 1; x < 256; x++ {
				c := slices.Clone(b)
				c[i] ^= byte(x)
				got, e, ok := fed(t, o, c).Next()
				if ok && e == api.OK && same(got, p) {
					t.Fatalf("byte %d by %x with %+v", i, x, o)
				}
				if want, wantE, wantOk := (&model{o: o, waiting: c}).next(); e != wantE || ok != wantOk || !same(got, want) {
					t.Fatalf("byte %d by %x with %+v: %v %v", i, x, o, e, ok)
				}
			}
		}
	}
}
