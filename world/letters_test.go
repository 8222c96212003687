package world_test

import (
	"math"
	"strings"
	"testing"

	"caisson/api"
	"caisson/world"
)

// P8.2, P8.3: the chapter's example of letters.
func TestExampleOfLetters(t *testing.T) {
	w := newWorld(t, 2, 3)
	ok(t, w.Cut(1))
	ok(t, w.Send(0, 1, []byte("a")))
	if x, e := w.Take(0); e != api.ErrState || !isNoLetter(x) || w.Lost() != 1 || w.Len() != 0 {
		t.Error("Take", x, e)
	}
}

// P8.2: each machine may send to each one, also to itself.
func TestSendToAll(t *testing.T) {
	w := newWorld(t, 5, 1)
	for from := range 5 {
		for to := range 5 {
			ok(t, w.Send(from, to, []byte{byte(from), byte(to)}))
			x, e := w.Look(w.Len() - 1)
			if e != api.OK || !isLetter(x, from, to, string([]byte{byte(from), byte(to)})) {
				t.Error("Look", x, e)
			}
		}
	}
	if w.Len() != 25 {
		t.Error("Len", w.Len())
	}
}

// P8.2: what Send refuses, and which error comes first.
func TestSendRefuses(t *testing.T) {
	most := strings.Repeat("m", api.MaxBytes)
	w := newWorld(t, 3, 1)
	send(t, w, "a")
	for _, c := range []struct {
		from, to, bytes int
		want            api.Errno
	}{
		{-1, 0, 1, api.ErrArg}, {0, -1, 1, api.ErrArg}, {3, 0, 1, api.ErrArg}, {0, 3, 1, api.ErrArg},
		{math.MaxInt, 0, 0, api.ErrArg}, {0, math.MinInt, 0, api.ErrArg},
		{3, 0, api.MaxBytes + 1, api.ErrArg}, {0, 3, api.MaxBytes + 1, api.ErrArg},
		{0, 1, api.MaxBytes + 1, api.ErrSize}, {2, 2, 1 << 20, api.ErrSize},
	} {
		if e := w.Send(c.from, c.to, make([]byte, c.bytes)); e != c.want {
			t.Errorf("Send(%d, %d, %d bytes): %v, not %v", c.from, c.to, c.bytes, e, c.want)
		}
	}
	shows(t, w, 0, 0, "a")
	send(t, w, "", most)
	shows(t, w, 0, 0, "a", "", most)
}

// P8.2: Look, Take, Drop and Double of the letters in any place.
func TestLetterByLetter(t *testing.T) {
	w := newWorld(t, 2, 1)
	send(t, w, "a", "b", "c", "d")
	if x, e := w.Look(2); e != api.OK || !isLetter(x, 0, 1, "c") {
		t.Error("Look", x, e)
	}
	shows(t, w, 0, 0, "a", "b", "c", "d")
	if x, e := w.Take(1); e != api.OK || !isLetter(x, 0, 1, "b") {
		t.Error("Take", x, e)
	}
	shows(t, w, 1, 0, "a", "c", "d")
	ok(t, w.Double(0))
	shows(t, w, 1, 0, "a", "c", "d", "a")
	ok(t, w.Drop(2))
	shows(t, w, 1, 1, "a", "c", "a")
	ok(t, w.Send(1, 0, []byte("e")))
	ok(t, w.Double(3))
	shows(t, w, 1, 1, "a", "c", "a", "e", "e")
	if x, e := w.Take(4); e != api.OK || !isLetter(x, 1, 0, "e") {
		t.Error("Take", x, e)
	}
	if x, e := w.Take(0); e != api.OK || !isLetter(x, 0, 1, "a") {
		t.Error("Take", x, e)
	}
	shows(t, w, 3, 1, "c", "a", "e")
}

// P8.2, P1: the numbers of no letter.
func TestNoLetter(t *testing.T) {
	w := newWorld(t, 2, 1)
	for n := range 3 {
		for _, k := range []int{-1, n, n + 1, math.MaxInt, math.MinInt} {
			x, e := w.Look(k)
			if !isNoLetter(x) || e != api.ErrArg {
				t.Error("Look", k, "of", n, e)
			}
			x, e = w.Take(k)
			if !isNoLetter(x) || e != api.ErrArg {
				t.Error("Take", k, "of", n, e)
			}
			if w.Drop(k) != api.ErrArg || w.Double(k) != api.ErrArg {
				t.Error("Drop, Double", k, "of", n)
			}
		}
		if w.Len() != n || w.Taken() != 0 || w.Lost() != 0 {
			t.Error("a refused call has changed something")
		}
		send(t, w, "a")
	}
}

// P8.2, P8.3: who is cut off when a letter is taken is what counts, not when it was sent.
func TestTakeAcrossACut(t *testing.T) {
	w := newWorld(t, 3, 1)
	for _, x := range []world.Letter{{From: 0, To: 1}, {From: 1, To: 0}, {From: 1, To: 2}, {From: 0, To: 0}, {From: 0, To: 2}} {
		ok(t, w.Send(x.From, x.To, []byte{byte('0' + x.From), byte('0' + x.To)}))
	}
	ok(t, w.Cut(1)) // the machine 0 is on one side, 1 and 2 on the other one
	shows(t, w, 0, 0, "01", "10", "12", "00", "02")
	if x, e := w.Look(0); e != api.OK || !isLetter(x, 0, 1, "01") {
		t.Error("Look across the cut", x, e)
	}
	ok(t, w.Double(0))
	for range 2 {
		if x, e := w.Take(0); e != api.ErrState || !isNoLetter(x) {
			t.Error("Take across the cut", x, e)
		}
	}
	shows(t, w, 0, 2, "12", "00", "02", "01")
	for _, want := range []world.Letter{{From: 1, To: 2, Data: []byte("12")}, {From: 0, To: 0, Data: []byte("00")}} {
		if x, e := w.Take(0); e != api.OK || !isLetter(x, want.From, want.To, string(want.Data)) {
			t.Error("Take beside the cut", x, e)
		}
	}
	ok(t, w.Drop(0))
	ok(t, w.Cut(6)) // the same sides
	ok(t, w.Double(0))
	if _, e := w.Take(0); e != api.ErrState {
		t.Error("Take across the cut", e)
	}
	ok(t, w.Cut(0))
	if x, e := w.Take(0); e != api.OK || !isLetter(x, 0, 1, "01") {
		t.Error("Take behind the cut", x, e)
	}
	shows(t, w, 3, 4)
}

// P8.2: as many letters as can be on their way.
func TestFull(t *testing.T) {
	w := newWorld(t, 2, 1)
	for i := range api.MaxFlight {
		if e := w.Send(0, 1, []byte{byte(i), byte(i >> 8)}); e != api.OK {
			t.Fatal("Send", i, e)
		}
	}
	full := func() {
		t.Helper()
		if w.Len() != api.MaxFlight || w.Send(0, 1, nil) != api.ErrFull || w.Double(0) != api.ErrFull || w.Double(api.MaxFlight-1) != api.ErrFull {
			t.Error("it is not full", w.Len())
		}
		if w.Send(0, 2, nil) != api.ErrArg || w.Send(0, 1, make([]byte, api.MaxBytes+1)) != api.ErrSize || w.Double(api.MaxFlight) != api.ErrArg || w.Double(-1) != api.ErrArg {
			t.Error("ErrFull comes ahead of another error")
		}
		if w.Len() != api.MaxFlight {
			t.Error("a refused call has changed something", w.Len())
		}
	}
	full()
	ok(t, w.Drop(5000))
	ok(t, w.Double(5000))
	full()
	if x, e := w.Take(0); e != api.OK || !isLetter(x, 0, 1, "\x00\x00") {
		t.Error("Take", x, e)
	}
	ok(t, w.Send(1, 0, nil))
	full()
	ok(t, w.Cut(1))
	w.Take(0)
	ok(t, w.Send(1, 0, nil))
	full()
}

// P8.2: what is handed in is not kept, and what is answered is new memory, also of one letter that is there twice.
func TestSharesNothing(t *testing.T) {
	w := newWorld(t, 2, 1)
	b := []byte("abc")
	ok(t, w.Send(0, 1, b))
	if string(b) != "abc" {
		t.Error("what was sent has changed")
	}
	clear(b)
	ok(t, w.Double(0))
	ok(t, w.Double(0))
	for range 2 {
		x, _ := w.Look(0)
		_ = append(x.Data, 'x')
		clear(x.Data)
	}
	shows(t, w, 0, 0, "abc", "abc", "abc")
	first, _ := w.Take(0)
	second, _ := w.Take(0)
	clear(first.Data)
	if string(second.Data) != "abc" {
		t.Error("two letters share their bytes")
	}
	shows(t, w, 2, 0, "abc")
}
