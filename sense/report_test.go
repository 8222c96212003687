package sense_test

import (
	"bytes"
	"encoding/binary"
	"math"
	"slices"
	"testing"

	"caisson/api"
	"caisson/sense"
)

// each calls f with numbers around 0 and at the ends of all numbers.
func each(f func(n int)) {
	for n := -600; n <= 600; n++ {
		f(n)
	}
	for _, n := range []int{math.MinInt, math.MinInt + 1, math.MinInt + 8, -1 << 32, 65536, 1 << 32, 1<<32 + 1, 1<<32 + 8, 1 << 61, math.MaxInt - 1, math.MaxInt} {
		f(n)
	}
}

// P16.3: capacities, byte by byte, at their bounds and beyond them.
func TestCapacity(t *testing.T) {
	for blocks, want := range map[int]string{1: "\x00\x00\x00\x00\x00\x00\x00\x40", 8: "\x00\x00\x00\x07\x00\x00\x00\x40", 256: "\x00\x00\x00\xff\x00\x00\x00\x40"} {
		if b, e := sense.Capacity(blocks); e != api.OK || string(b) != want {
			t.Errorf("%d: % x %v", blocks, b, e)
		}
	}
	each(func(n int) {
		b, e := sense.Capacity(n)
		if n < 1 || n > 256 {
			if e != api.ErrArg || b != nil {
				t.Errorf("%d: % x %v", n, b, e)
			}
			return
		}
		want := binary.BigEndian.AppendUint32(nil, uint32(n-1))
		if want = append(want, 0, 0, 0, 64); e != api.OK || !bytes.Equal(b, want) {
			t.Errorf("%d: % x %v", n, b, e)
		}
	})
}

// P16.3: units, byte by byte, at their bounds and beyond them.
func TestLuns(t *testing.T) {
	all := []string{
		"\x00\x00\x00\x08\x00\x00\x00\x00" + "\x00\x00\x00\x00\x00\x00\x00\x00",
		"\x00\x00\x00\x10\x00\x00\x00\x00" + "\x00\x00\x00\x00\x00\x00\x00\x00" + "\x00\x01\x00\x00\x00\x00\x00\x00",
		"\x00\x00\x00\x18\x00\x00\x00\x00" + "\x00\x00\x00\x00\x00\x00\x00\x00" + "\x00\x01\x00\x00\x00\x00\x00\x00" + "\x00\x02\x00\x00\x00\x00\x00\x00",
	}
	each(func(n int) {
		b, e := sense.Luns(n)
		if n < 1 || n > 3 {
			if e != api.ErrArg || b != nil {
				t.Errorf("%d: % x %v", n, b, e)
			}
			return
		}
		if e != api.OK || string(b) != all[n-1] {
			t.Errorf("%d: % x %v", n, b, e)
		}
	})
}

// portBytes is what Ports answers of states, whether or not they can be.
func portBytes(states []int) []byte {
	b := binary.BigEndian.AppendUint32(nil, uint32(12*len(states)))
	for i, s := range states {
		n := byte(i + 1)
		b = append(b, byte(s), 0x8d, 0, n, 0, 0, 0, 1, 0, 0, 0, n)
	}
	return b
}

// lists calls f with each list of states that can be.
func lists(f func(states []int)) {
	var more func(states []int)
	more = func(states []int) {
		f(states)
		if len(states) < 5 {
			for _, s := range []int{0, 2, 14, 15} {
				more(append(slices.Clone(states), s))
			}
		}
	}
	more(nil)
}

// sameStates holds States of b against a plain reading.
func sameStates(t *testing.T, b []byte) api.Errno {
	t.Helper()
	got, e := sense.States(b)
	want, states := api.ErrForm, []int(nil)
	switch {
	case len(b) < 4, uint64(binary.BigEndian.Uint32(b)) > uint64(len(b)-4):
		want = api.ErrShort
	default:
		for i := 4; i < len(b) && i <= 4+5*12; i += 12 {
			states = append(states, int(b[i]))
		}
		wrong := func(s int) bool { return s != 0 && s != 2 && s != 14 && s != 15 }
		if len(states) <= 5 && !slices.ContainsFunc(states, wrong) && bytes.Equal(portBytes(states), b) {
			want = api.OK
		} else {
			states = nil
		}
	}
	if e != want || !slices.Equal(got, states) {
		t.Fatalf("States of % x: %v %v, not %v %v", b, got, e, states, want)
	}
	return e
}

// P16.3: machines, byte by byte.
func TestPortsByteByByte(t *testing.T) {
	b, e := sense.Ports([]int{sense.Changing, sense.Active, sense.Offline})
	want := []byte{0, 0, 0, 36,
		15, 0x8d, 0, 1, 0, 0, 0, 1, 0, 0, 0, 1,
		0, 0x8d, 0, 2, 0, 0, 0, 1, 0, 0, 0, 2,
		14, 0x8d, 0, 3, 0, 0, 0, 1, 0, 0, 0, 3}
	if e != api.OK || !bytes.Equal(b, want) {
		t.Errorf("% x %v", b, e)
	}
	if l, e := sense.States(want); e != api.OK || !slices.Equal(l, []int{15, 0, 14}) {
		t.Error(l, e)
	}
	for _, l := range [][]int{nil, {}} {
		if b, e := sense.Ports(l); e != api.OK || !bytes.Equal(b, make([]byte, 4)) {
			t.Errorf("none: % x %v", b, e)
		}
	}
}

// P16.3, P16.5 (P7): each list of states there and back.
func TestStatesBehindPorts(t *testing.T) {
	count := 0
	lists(func(states []int) {
		count++
		b, e := sense.Ports(states)
		if e != api.OK || !bytes.Equal(b, portBytes(states)) {
			t.Fatalf("%v: % x %v", states, b, e)
		}
		if l, e := sense.States(b); e != api.OK || !slices.Equal(l, states) {
			t.Fatal(states, "are read as", l, e)
		}
	})
	if count != 1+4+16+64+256+1024 {
		t.Error(count)
	}
}

// P16.3: states that can not be, at each machine, and too many machines; these are told first.
func TestPortsRefuses(t *testing.T) {
	each(func(n int) {
		can := n == 0 || n == 2 || n == 14 || n == 15
		for count := 1; count <= 5; count++ {
			for at := range count {
				states := make([]int, count)
				states[at] = n
				b, e := sense.Ports(states)
				if can && (e != api.OK || !bytes.Equal(b, portBytes(states))) || !can && (e != api.ErrArg || b != nil) {
					t.Errorf("%v: % x %v", states, b, e)
				}
			}
		}
		for _, count := range []int{6, 7, 100} {
			states := make([]int, count)
			states[0], states[count-1] = n, n
			if b, e := sense.Ports(states); e != api.ErrSize || b != nil {
				t.Errorf("%d machines: % x %v", count, b, e)
			}
		}
	})
}

// P16.3: cut at each place, longer, and more machines than can be.
func TestStatesOfOtherLengths(t *testing.T) {
	for count := range 6 {
		b := portBytes(make([]int, count))
		for n := range b {
			if e := sameStates(t, b[:n]); e != api.ErrShort {
				t.Error(count, "cut to", n, e)
			}
		}
		for _, more := range []int{1, 3, 4, 11, 12, 13, 24, 1000} {
			if e := sameStates(t, append(slices.Clone(b), make([]byte, more)...)); e != api.ErrForm {
				t.Error(count, "longer by", more, e)
			}
			if e := sameStates(t, append(slices.Clone(b), portBytes(make([]int, count))...)); e != api.ErrForm {
				t.Error(count, "twice", e)
			}
		}
	}
	for _, count := range []int{6, 7, 100, 5000} {
		if e := sameStates(t, portBytes(make([]int, count))); e != api.ErrForm {
			t.Error(count, "machines", e)
		}
	}
	sameStates(t, nil)
	for n := range 80 { // the right length of what need not be whole machines
		b := append([]byte{0, 0, 0, byte(n)}, make([]byte, n)...)
		if e := sameStates(t, b); (e == api.OK) != (n == 0) {
			t.Error(n, e)
		}
	}
}

// P16.3: each number of bytes that could be said to follow: too many is short, too few is not the form.
func TestStatesOfOtherNumbers(t *testing.T) {
	for _, n := range []uint32{0, 1, 12, 23, 24, 25, 36, 255, 256, 280, 65535, 65536, 65536 + 24, 1 << 24, 1<<24 + 24, 1<<31 - 1, 1 << 31, 1<<31 + 24, math.MaxUint32 - 3, math.MaxUint32} {
		b := portBytes([]int{0, 2})
		binary.BigEndian.PutUint32(b, n)
		want := api.OK
		if n > 24 {
			want = api.ErrShort
		} else if n < 24 {
			want = api.ErrForm
		}
		if e := sameStates(t, b); e != want {
			t.Error(n, e)
		}
		b[5]++ // what is short is told ahead of what is wrong
		if e := sameStates(t, b); e == api.OK || (e == api.ErrShort) != (n > 24) {
			t.Error(n, "and wrong", e)
		}
	}
}

// P16.3, P16.5 (P7): each byte changed to each value is other states, or is refused.
func TestStatesOfChangedBytes(t *testing.T) {
	for _, states := range [][]int{{0}, {2, 15, 14}, {15, 14, 2, 0, 15}} {
		b := portBytes(states)
		for i := range b {
			was := b[i]
			for x := range 256 {
				b[i] = byte(x)
				e := sameStates(t, b)
				if got, _ := sense.States(b); b[i] != was && e == api.OK && (i < 4 || (i-4)%12 != 0 || slices.Equal(got, states)) {
					t.Error(states, i, x)
				}
			}
			b[i] = was
		}
	}
}

// Rules 4 and 5: lists of states are neither changed nor kept.
func TestStatesShareNothing(t *testing.T) {
	states := []int{0, 2, 15}
	b, _ := sense.Ports(states)
	want := slices.Clone(b)
	clear(states)
	if !bytes.Equal(b, want) {
		t.Error("Ports")
	}
	one, _ := sense.States(b)
	two, _ := sense.States(b)
	clear(b)
	one[0] = 99
	_ = append(one, 7)
	if !slices.Equal(two, []int{0, 2, 15}) {
		t.Error("States", two)
	}
	bad := []int{0, 1, 2}
	if sense.Ports(bad); !slices.Equal(bad, []int{0, 1, 2}) {
		t.Error("a refused list was changed")
	}
}
