package unit_test

import (
	"bytes"
	"math"
	"math/rand"
	"slices"
	"testing"

	"caisson/api"
	"caisson/resv"
	"caisson/unit"
)

// changes is n changes of blocks from 0 on, every other one with data.
func changes(n int) []api.Change {
	var l []api.Change
	for i := range n {
		x := api.Change{Lba: i}
		if i%2 == 0 {
			x.Data = full(byte(i))
		}
		l = append(l, x)
	}
	return l
}

// P14.1: a command, byte by byte.
func TestCmdByteByByte(t *testing.T) {
	c := unit.Cmd{Kind: unit.Pr, Nexus: 15, Seq: 0x0102030405060708, Lun: 254, Changes: []api.Change{{Lba: 0xfffe, Data: full(7)}, {Lba: 1}},
		Pr: resv.Cmd{Action: 253, Key: 0xfffefdfcfbfaf9f8, New: 0x1112131415161718, Type: 252}}
	want := slices.Concat([]byte{3, 15, 1, 2, 3, 4, 5, 6, 7, 8, 254, 2, 0xff, 0xfe, 64}, full(7), []byte{0, 1, 0},
		[]byte{253, 0xff, 0xfe, 0xfd, 0xfc, 0xfb, 0xfa, 0xf9, 0xf8, 0x11, 0x12, 0x13, 0x14, 0x15, 0x16, 0x17, 0x18, 252})
	if b, e := unit.Bytes(c); e != api.OK || !bytes.Equal(b, want) {
		t.Errorf("Bytes: % x %v", b, e)
	}
	if x, e := unit.Parse(want); e != api.OK || !sameCmd(x, c) {
		t.Error("Parse", x, e)
	}
	least := unit.Cmd{Kind: unit.Write, Seq: 1}
	if b, e := unit.Bytes(least); e != api.OK || !bytes.Equal(b, append([]byte{1, 0, 0, 0, 0, 0, 0, 0, 0, 1}, make([]byte, 20)...)) {
		t.Errorf("Bytes: % x %v", b, e)
	}
}

// The numbers of kinds.
func TestNumbers(t *testing.T) {
	if unit.Write != 1 || unit.Unmap != 2 || unit.Pr != 3 || unit.Pop != 4 {
		t.Error("kinds")
	}
}

// bounds calls f with commands whose fields are at their bounds and beyond them, and whether they can be.
func bounds(f func(name string, c unit.Cmd, can bool)) {
	from := func() unit.Cmd {
		return unit.Cmd{Kind: unit.Write, Nexus: 3, Seq: 9, Lun: 1, Changes: changes(2), Pr: resv.Cmd{Action: 1, Key: 2, New: 3, Type: 5}}
	}
	ints := func(name string, least, most int, set func(c *unit.Cmd, n int)) {
		for _, n := range []int{math.MinInt, -256, -1, 0, 1, 2, 3, 4, 5, 15, 16, 17, 255, 256, 257, 65535, 65536, 65537, 1 << 32, math.MaxInt} {
			c := from()
			set(&c, n)
			f(name, c, n >= least && n <= most)
		}
	}
	ints("Kind", 1, 4, func(c *unit.Cmd, n int) { c.Kind = n })
	ints("Nexus", 0, 15, func(c *unit.Cmd, n int) { c.Nexus = n })
	ints("Lun", 0, 255, func(c *unit.Cmd, n int) { c.Lun = n })
	ints("Action", 0, 255, func(c *unit.Cmd, n int) { c.Pr.Action = n })
	ints("Type", 0, 255, func(c *unit.Cmd, n int) { c.Pr.Type = n })
	ints("first Lba", 0, 65535, func(c *unit.Cmd, n int) { c.Changes[0].Lba = n })
	ints("last Lba", 0, 65535, func(c *unit.Cmd, n int) { c.Changes[1].Lba = n })
	for _, n := range []int64{math.MinInt64, -1, 0, 1, 2, highest - 1, highest, highest + 1, math.MaxInt64} {
		c := from()
		c.Seq = n
		f("Seq", c, n >= 1 && n <= highest)
	}
	for _, n := range []int{0, 1, 31, 32, 33, 255, 256, 257, 1000} {
		c := from()
		c.Changes = changes(n)
		f("changes", c, n <= 32)
	}
	for _, n := range []int{0, 1, 63, 64, 65, 128, 255, 256, 320, 65536 + 64} {
		for i := range 2 {
			c := from()
			c.Changes[i].Data = make([]byte, n)
			f("Data", c, n == 0 || n == 64)
		}
	}
	for _, n := range []uint64{0, 1, 1 << 63, math.MaxUint64} {
		c := from()
		c.Pr.Key, c.Pr.New = n, ^n
		f("keys", c, true)
	}
}

// P14.1: which commands have bytes, and that these are read as it.
func TestBytesBounds(t *testing.T) {
	bounds(func(name string, c unit.Cmd, can bool) {
		b, e := unit.Bytes(c)
		if !can {
			if e != api.ErrArg || b != nil {
				t.Error(name, c.Kind, e)
			}
			return
		}
		if e != api.OK || !bytes.Equal(b, cmdBytes(c)) {
			t.Error(name, e)
		}
		if x, e := unit.Parse(b); e != api.OK || !sameCmd(x, c) {
			t.Error(name, "Parse", e)
		}
	})
}

// parseError is Parse's error of b, by the plainest means.
func parseError(b []byte) api.Errno {
	if len(b) < 12 {
		return api.ErrShort
	}
	count := int(b[11])
	if count > 32 {
		return api.ErrSize
	}
	can := b[0] >= 1 && b[0] <= 4 && b[1] <= 15
	seq := int64(0)
	for _, x := range b[2:10] {
		seq = seq<<8 | int64(x)
	}
	can = can && seq >= 1 && seq <= highest
	b = b[12:]
	if count > len(b) {
		return api.ErrShort
	}
	for range count {
		if len(b) < 3 || len(b)-3 < int(b[2]) {
			return api.ErrShort
		}
		can = can && (b[2] == 0 || b[2] == 64)
		b = b[3+int(b[2]):]
	}
	switch {
	case len(b) < 18:
		return api.ErrShort
	case len(b) > 18:
		return api.ErrForm
	case !can:
		return api.ErrArg
	}
	return api.OK
}

// P14.1: bytes with a wrong number in them, and their errors' order.
func TestParseRefuses(t *testing.T) {
	with := func(c unit.Cmd, at int, n byte) []byte {
		b := cmdBytes(c)
		b[at] = n
		return b
	}
	c := unit.Cmd{Kind: unit.Write, Nexus: 3, Seq: 9, Lun: 1, Changes: changes(2)}
	five := unit.Cmd{Kind: unit.Write, Nexus: 3, Seq: 9, Changes: []api.Change{{Lba: 1, Data: make([]byte, 5)}}}
	for i, x := range []struct {
		b    []byte
		want api.Errno
	}{
		{cmdBytes(c), api.OK},
		{with(c, 0, 0), api.ErrArg}, {with(c, 0, 5), api.ErrArg}, {with(c, 0, 255), api.ErrArg},
		{with(c, 1, 16), api.ErrArg}, {with(c, 9, 0), api.ErrArg}, {with(c, 2, 0x10), api.ErrArg}, {with(c, 2, 0x80), api.ErrArg},
		{with(c, 10, 255), api.OK}, {with(c, 11, 33), api.ErrSize}, {with(c, 11, 255), api.ErrSize}, {with(c, 11, 32), api.ErrShort}, {with(c, 11, 1), api.ErrForm},
		{with(c, 14, 63), api.ErrArg}, {with(c, 14, 255), api.ErrShort}, {cmdBytes(five), api.ErrArg},
		{append(with(c, 0, 0), 1), api.ErrForm}, {append(cmdBytes(five), 1), api.ErrForm}, // ahead of what can not be
		{with(c, 0, 0)[:50], api.ErrShort}, {cmdBytes(five)[:30], api.ErrShort},
		{with(c, 11, 33)[:12], api.ErrSize}, {with(c, 11, 2)[:12], api.ErrShort}, {with(c, 11, 33)[:11], api.ErrShort},
		{append(with(c, 11, 33), 1), api.ErrSize}, {nil, api.ErrShort}, {[]byte{}, api.ErrShort},
	} {
		got, e := unit.Parse(x.b)
		if e != x.want || e != api.OK && !sameCmd(got, unit.Cmd{}) {
			t.Error(i, e, "not", x.want)
		}
		if e != parseError(x.b) {
			t.Error(i, e, parseError(x.b))
		}
	}
}

// P14.1: cut at each place, and longer.
func TestParseOfCutBytes(t *testing.T) {
	c := unit.Cmd{Kind: unit.Pr, Nexus: 3, Seq: 9, Lun: 1, Changes: changes(5), Pr: resv.Cmd{Key: 1}}
	b := cmdBytes(c)
	for n := range b {
		if x, e := unit.Parse(b[:n]); e != api.ErrShort || !sameCmd(x, unit.Cmd{}) {
			t.Error("cut to", n, e)
		}
	}
	for _, more := range [][]byte{{0}, {1, 2}, b, make([]byte, 100000)} {
		if x, e := unit.Parse(slices.Concat(b, more)); e != api.ErrForm || !sameCmd(x, unit.Cmd{}) {
			t.Error("longer", len(more), e)
		}
	}
}

// P14.1, P7: whatever bytes are read as a command are just those that it has; of others the error is the first one.
func TestParseOfChangedBytes(t *testing.T) {
	rnd := rand.New(rand.NewSource(1))
	errors := map[api.Errno]int{}
	for range 40000 {
		c := unit.Cmd{Kind: 1 + rnd.Intn(4), Nexus: rnd.Intn(16), Seq: 1 + rnd.Int63n(highest), Lun: rnd.Intn(256), Changes: changes(rnd.Intn(4)),
			Pr: resv.Cmd{Action: rnd.Intn(256), Key: rnd.Uint64(), New: rnd.Uint64(), Type: rnd.Intn(256)}}
		b := cmdBytes(c)
		for range rnd.Intn(3) {
			b[rnd.Intn(min(len(b), 16))] = byte(rnd.Intn(70))
		}
		switch rnd.Intn(4) {
		case 0:
			b = b[:rnd.Intn(len(b))]
		case 1:
			b = append(b, make([]byte, rnd.Intn(80))...)
		}
		x, e := unit.Parse(b)
		if want := parseError(b); e != want {
			t.Fatalf("%v not %v: % x", e, want, b)
		}
		errors[e]++
		if e == api.OK {
			if back, e := unit.Bytes(x); e != api.OK || !bytes.Equal(back, b) {
				t.Fatalf("% x", b)
			}
		} else if !sameCmd(x, unit.Cmd{}) {
			t.Fatal("a command beside", e)
		}
	}
	for _, e := range []api.Errno{api.OK, api.ErrShort, api.ErrForm, api.ErrArg, api.ErrSize} {
		if errors[e] < 500 {
			t.Error("too few", e, errors[e])
		}
	}
}

// Rules 4 and 5: neither bytes nor commands share memory with what they were made of.
func TestCmdSharesNothing(t *testing.T) {
	c := unit.Cmd{Kind: unit.Write, Nexus: 3, Seq: 9, Changes: changes(3)}
	b, _ := unit.Bytes(c)
	want := slices.Clone(b)
	clear(c.Changes[0].Data)
	c.Changes[1].Lba = 77
	x, _ := unit.Parse(b)
	if !bytes.Equal(b, want) {
		t.Error("Bytes")
	}
	clear(b)
	if back, e := unit.Bytes(x); e != api.OK || !bytes.Equal(back, want) {
		t.Error("Parse")
	}
	x.Changes[0].Data = append(x.Changes[0].Data, 1)
	if x.Changes[2].Data[0] != 2 {
		t.Error("one's data runs into another's")
	}
}
