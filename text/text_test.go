package text_test

import (
	"bytes"
	"math"
	"math/rand"
	"slices"
	"strconv"
	"strings"
	"testing"

	"caisson/api"
	"caisson/text"
)

// wrongKeys and wrongVals can not be.
func wrongKeys() []string {
	l := []string{"", strings.Repeat("k", 64), strings.Repeat("k", 65), strings.Repeat("k", 1000), "a b", "a=b", "=", "=a", "a\x00", "\x00", "ä", "aé", "Ω", "٣", "１", "Ａ", "\xff", "a\xc3", "\xc3\x28", "\xe2\x82", "a\ufffd", "/", ",", "a,b", "~", "a:b"}
	for c := range 256 {
		if strings.IndexByte(keyBytes, byte(c)) < 0 {
			l = append(l, string([]byte{byte(c)}), string([]byte{'a', byte(c)}), string([]byte{byte(c), 'a'}))
		}
	}
	return l
}

func wrongVals() []string {
	l := []string{strings.Repeat("v", 256), strings.Repeat(" ", 257), strings.Repeat("v", 70000), "\x00", "a\x00b", "\n", "\t", "\x1f", "\x7f", "ä", "aé", "\xff", "a\xc3", "\ufffd", "a\u00a0"}
	for c := range 256 {
		if c < 32 || c > 126 {
			l = append(l, string([]byte{byte(c)}), string([]byte{'a', byte(c)}), string([]byte{byte(c), 'a'}))
		}
	}
	return l
}

// rightKeys and rightVals can be: at their bounds, and of each character.
func rightKeys() []string {
	l := []string{"a", "Z", "0", ".", "-", "+", "@", "_", keyBytes[:63], keyBytes[4:], strings.Repeat("k", 63), strings.Repeat("k", 62)}
	for i := range len(keyBytes) {
		l = append(l, keyBytes[i:i+1], "x"+keyBytes[i:i+1])
	}
	return l
}

func rightVals() []string {
	l := []string{"", " ", "~", "=", "==", "a=b", "=a", "a,b", strings.Repeat("v", 255), strings.Repeat("=", 255), strings.Repeat("~", 254)}
	for c := 32; c <= 126; c++ {
		l = append(l, string([]byte{byte(c)}), string([]byte{'v', byte(c)}))
	}
	return l
}

// P18.1: keys and values that can be, there and back.
func TestRightPairs(t *testing.T) {
	for _, k := range rightKeys() {
		for _, v := range rightVals() {
			l := pairs(k, v)
			b, e := text.Put(l)
			if e != api.OK || string(b) != k+"="+v+"\x00" {
				t.Fatalf("Put of %q: %q %v", l, b, e)
			}
			if back, e := sameGet(t, b); e != api.OK || !slices.Equal(back, l) {
				t.Fatalf("Get of %q: %q %v", b, back, e)
			}
		}
	}
}

// P18.1: keys and values that can not be, alone and behind others.
func TestWrongPairs(t *testing.T) {
	refused := func(k, v string) {
		t.Helper()
		for _, l := range [][]text.Pair{pairs(k, v), pairs("A", "1", k, v), pairs(k, v, "A", "1"), pairs("A", "1", k, v, "B", "2")} {
			if b, e := text.Put(l); e != api.ErrArg || b != nil {
				t.Fatalf("Put of %.99q: %q %v", l, b, e)
			}
		}
	}
	for _, k := range wrongKeys() {
		refused(k, "")
		refused(k, "v")
		sameGet(t, []byte(k+"=v\x00"))
		sameGet(t, []byte("A=1\x00"+k+"=v\x00B=2\x00"))
		if strings.IndexByte(k, '=') < 0 {
			for _, s := range []string{k + "=v\x00", "A=1\x00" + k + "=v\x00", k + "=\x00B=2\x00"} {
				if l, e := text.Get([]byte(s)); e != api.ErrForm || l != nil {
					t.Fatalf("Get of %.99q: %q %v", s, l, e)
				}
			}
		}
	}
	for _, v := range wrongVals() {
		refused("K", v)
		sameGet(t, []byte("K="+v+"\x00"))
		for _, s := range []string{"K=" + v + "\x00", "A=1\x00K=" + v + "\x00", "K=" + v + "\x00B=2\x00"} {
			if l, e := text.Get([]byte(s)); e != api.ErrForm || l != nil {
				t.Fatalf("Get of %.99q: %q %v", s, l, e)
			}
		}
	}
}

// P18.1: bytes that end too early are told ahead of all else.
func TestGetShort(t *testing.T) {
	b, _ := text.Put(pairs("A", "1", "B", "x=y", "C", ""))
	for n := range b {
		want := api.OK
		if n > 0 && b[n-1] != 0 {
			want = api.ErrShort
		}
		if _, e := sameGet(t, b[:n]); e != want {
			t.Errorf("%q: %v", b[:n], e)
		}
	}
	for _, s := range []string{"A", "=", "A=1", "\x00A", "A=1\x00A=1", "\x00\x00=", "\xff", strings.Repeat("A=1\x00", 100) + "A"} {
		if l, e := text.Get([]byte(s)); e != api.ErrShort || l != nil {
			t.Errorf("%q: %q %v", s, l, e)
		}
	}
	for _, b := range [][]byte{nil, {}} {
		if l, e := text.Get(b); e != api.OK || len(l) != 0 {
			t.Errorf("nothing: %q %v", l, e)
		}
	}
}

// P18.1: pairs without a =, or none at all.
func TestGetWithoutValue(t *testing.T) {
	for _, s := range []string{"\x00", "\x00\x00", "A\x00", "A=1\x00\x00", "\x00A=1\x00", "A=1\x00B\x00", "A=1\x00B\x00C=3\x00", "A\x00=1\x00", "=\x00", "=1\x00"} {
		if l, e := sameGet(t, []byte(s)); e != api.ErrForm || l != nil {
			t.Errorf("%q: %q %v", s, l, e)
		}
	}
}

// P18.1: keys that stand twice. Put writes them; Get refuses them.
func TestTwice(t *testing.T) {
	for _, l := range [][]text.Pair{pairs("A", "1", "A", "2"), pairs("A", "1", "A", "1"), pairs("A", "", "B", "2", "A", "3"), pairs("B", "2", "A", "", "C", "", "A", "3", "D", "")} {
		b, e := text.Put(l)
		if e != api.OK || bytes.Count(b, []byte{0}) != len(l) {
			t.Errorf("Put of %q: %q %v", l, b, e)
		}
		if back, e := sameGet(t, b); e != api.ErrForm || back != nil {
			t.Errorf("Get of %q: %q %v", b, back, e)
		}
	}
	for _, l := range [][]text.Pair{pairs("A", "1", "a", "1"), pairs("A", "1", "AA", "1"), pairs("AA", "1", "A", "1"), pairs("A", "B", "B", "A")} {
		b, _ := text.Put(l)
		if back, e := sameGet(t, b); e != api.OK || !slices.Equal(back, l) {
			t.Errorf("Get of %q: %q %v", b, back, e)
		}
	}
}

// many are n pairs of different keys.
func many(n int) []text.Pair {
	var l []text.Pair
	for i := range n {
		l = append(l, text.Pair{Key: "K" + strconv.Itoa(i), Val: strconv.Itoa(i)})
	}
	return l
}

// bytesOf are pairs as bytes, how many ever there are.
func bytesOf(l []text.Pair) string {
	s := ""
	for _, x := range l {
		s += x.Key + "=" + x.Val + "\x00"
	}
	return s
}

// P18.1: 64 pairs are as many as there may be.
func TestMost(t *testing.T) {
	if text.Most != 64 {
		t.Error(text.Most)
	}
	for n := range 70 {
		l := many(n)
		b, e := text.Put(l)
		back, backE := sameGet(t, []byte(bytesOf(l)))
		if n <= 64 {
			if e != api.OK || string(b) != bytesOf(l) || backE != api.OK || !slices.Equal(back, l) {
				t.Errorf("%d: %v %v", n, e, backE)
			}
		} else if e != api.ErrSize || b != nil || backE != api.ErrSize || back != nil {
			t.Errorf("%d: %v %v", n, e, backE)
		}
	}
	// of several errors the first one: Put's of the number of pairs; Get's of the first pair that has one, and of the 65th that it is one too many
	for _, wrong := range []text.Pair{{}, {Key: "ä"}, {Key: "K", Val: "\x01"}} {
		for _, at := range []int{0, 1, 63, 64, 65} {
			l := many(66)
			l[at] = wrong
			if b, e := text.Put(l); e != api.ErrSize || b != nil {
				t.Error("Put", at, e)
			}
		}
	}
	for _, wrong := range []string{"", "A", "=", "ä=", "K=\x01", "K0=0", "K1=0"} {
		for at := range 66 {
			var s []string
			for _, x := range many(66) {
				s = append(s, x.Key+"="+x.Val)
			}
			s[at] = wrong
			b := []byte(strings.Join(s, "\x00") + "\x00")
			want := api.ErrSize
			if at < 64 && !(at == 0 && wrong == "K0=0") && !(at == 1 && wrong == "K1=0") {
				want = api.ErrForm
			}
			if l, e := sameGet(t, b); e != want || l != nil {
				t.Errorf("Get of %q at %d: %v", wrong, at, e)
			}
		}
	}
}

// P18.4 (P7): pairs there and back, and whatever bytes are pairs are just those that these have.
func TestThereAndBack(t *testing.T) {
	rnd := rand.New(rand.NewSource(1))
	for n := range 65 {
		for range 5 {
			l := anyPairs(rnd, n)
			was := slices.Clone(l)
			b, e := text.Put(l)
			if e != api.OK || string(b) != bytesOf(l) || !slices.Equal(l, was) {
				t.Fatalf("Put of %q: %q %v", l, b, e)
			}
			if back, e := sameGet(t, b); e != api.OK || !slices.Equal(back, l) {
				t.Fatalf("Get of %q: %q %v", b, back, e)
			}
		}
	}
	const chars = "ABab0.=\x00\x00= ~\x1f\x7f\x80\xc3\xa4,"
	errors := map[api.Errno]int{}
	for range 200000 {
		b := []byte(anyText(rnd, rnd.Intn(14), chars[:6+rnd.Intn(len(chars)-5)]))
		if rnd.Intn(4) > 0 {
			b = append(b, 0)
		}
		l, e := sameGet(t, b)
		errors[e]++
		if e != api.OK {
			continue
		}
		if again, e := text.Put(l); e != api.OK || !bytes.Equal(again, b) {
			t.Fatalf("%q: %q %v", b, again, e)
		}
	}
	for _, e := range []api.Errno{api.OK, api.ErrShort, api.ErrForm} {
		if errors[e] < 1000 {
			t.Error("too few", e, errors[e])
		}
	}
}

// P18.4: each byte that is changed, to each other value, is other pairs, or is refused.
func TestOneByteChanged(t *testing.T) {
	l := pairs("Key", "value", "B", "", "C.d", "x=y")
	b, _ := text.Put(l)
	for i, was := range b {
		for c := range 256 {
			b[i] = byte(c)
			if got, e := sameGet(t, b); byte(c) != was && e == api.OK && slices.Equal(got, l) {
				t.Errorf("byte %d to %x", i, c)
			}
		}
		b[i] = was
	}
}

// P18.1: numbers at their bounds, and what is none.
func TestNumber(t *testing.T) {
	for _, n := range []int{0, 1, 2, 9, 10, 11, 99, 100, 511, 512, 8192, 65535, 65536, 999999, 1000000, 9999999, 10000000, 16777214, 16777215} {
		s := strconv.Itoa(n)
		if got, e := text.Number(s); got != n || e != api.OK {
			t.Errorf("Number of %q: %d %v", s, got, e)
		}
		if got := text.Digits(n); got != s {
			t.Errorf("Digits of %d: %q", n, got)
		}
	}
	for _, n := range []int{math.MinInt, math.MinInt + 1, -1 << 32, -16777215, -10, -1, 16777216, 16777217, 99999999, 1 << 32, 1<<32 + 1, math.MaxInt} {
		if got := text.Digits(n); got != "" {
			t.Errorf("Digits of %d: %q", n, got)
		}
		if got, e := text.Number(strconv.Itoa(n)); got != 0 || e != api.ErrForm {
			t.Errorf("Number of %d: %d %v", n, got, e)
		}
	}
	for _, s := range []string{
		"", "00", "01", "000", "0000000", "007", "0512", "00000000000000000000001", "+1", "-0", "-1", "+0", " 1", "1 ", "1 2", "1,2", "1.0", "1e3", "0x10", "1_000", "a", "1a", "a1", "\x00", "1\x00", "\x001", "/", ":", "1/", "1:",
		"٣", "1٣", "１", "\xff", "1\xff", "\ufffd", "16777216", "167772150", "99999999999999999999", "18446744073709551616", "18446744073709551617", "4294967296", "340282366920938463463374607431768211457", strings.Repeat("9", 100000), strings.Repeat("0", 100000),
	} {
		if got, e := text.Number(s); got != 0 || e != api.ErrForm {
			t.Errorf("Number of %.40q: %d %v", s, got, e)
		}
	}
}

// P18.1: of each number its digits, and back; of other texts of digits, whether they are those of one.
func TestNumberThereAndBack(t *testing.T) {
	for n := 0; n <= highest; n += 1 + n/97 {
		if got, e := text.Number(text.Digits(n)); got != n || e != api.OK {
			t.Fatalf("%d: %d %v", n, got, e)
		}
	}
	rnd := rand.New(rand.NewSource(2))
	for range 100000 {
		s := anyText(rnd, rnd.Intn(10), "0123456789"[:1+rnd.Intn(10)])
		if rnd.Intn(5) == 0 {
			s += anyText(rnd, 1, "/:+- a")
		}
		want, ok := number(s)
		got, e := text.Number(s)
		if ok && (got != want || e != api.OK) || !ok && (got != 0 || e != api.ErrForm) {
			t.Fatalf("%q: %d %v", s, got, e)
		}
		if ok && text.Digits(got) != s {
			t.Fatalf("%q: %q", s, text.Digits(got))
		}
	}
}

// Rules 4 and 5: what is answered is new memory, and what is handed in is not kept.
func TestSharesNothing(t *testing.T) {
	l := pairs("A", "1", "B", "2")
	a, _ := text.Put(l)
	b, _ := text.Put(l)
	first, _ := text.Get(a)
	second, _ := text.Get(a)
	clear(a)
	_ = append(a, 1, 2, 3)
	clear(l)
	first[0] = text.Pair{}
	_ = append(first, text.Pair{})
	if string(b) != "A=1\x00B=2\x00" || !slices.Equal(second, pairs("A", "1", "B", "2")) {
		t.Errorf("%q %q", b, second)
	}
}
