package entries_test

import (
	"bytes"
	"encoding/binary"
	"hash/crc32"
	"math"
	"math/rand"
	"slices"
	"testing"

	"caisson/api"
	"caisson/entries"
)

// sealed is b with its sum behind it.
func sealed(b []byte) []byte {
	return binary.BigEndian.AppendUint32(slices.Clone(b), crc32.Checksum(b, crc32.MakeTable(crc32.Castagnoli)))
}

// six is n in six bytes.
func six(n int64) []byte { return binary.BigEndian.AppendUint64(nil, uint64(n))[2:] }

// entryBytes is the bytes of an entry, whether or not it can be.
func entryBytes(e api.Entry) []byte {
	b := append([]byte{byte(e.Kind + 0x40)}, six(e.Term)...)
	b = binary.BigEndian.AppendUint16(b, uint16(len(e.Cmd)))
	return append(b, e.Cmd...)
}

// msgBytes is the bytes of a message ahead of its sum, whether or not it can be.
func msgBytes(m api.Msg) []byte {
	b := []byte{0xca, byte(m.Kind), byte(m.From), byte(m.To), 0}
	if m.Yes {
		b[4] = 1
	}
	for _, n := range []int64{m.Term, m.At, m.AtTerm, m.Commit, m.Round} {
		b = append(b, six(n)...)
	}
	b = binary.BigEndian.AppendUint16(b, uint16(len(m.L)))
	for _, e := range m.L {
		b = append(b, entryBytes(e)...)
	}
	b = binary.BigEndian.AppendUint32(b, uint32(len(m.Data)))
	return append(b, m.Data...)
}

func sameMsg(a, b api.Msg) bool {
	return a.Kind == b.Kind && a.From == b.From && a.To == b.To && a.Term == b.Term && a.At == b.At && a.AtTerm == b.AtTerm &&
		a.Commit == b.Commit && a.Round == b.Round && a.Yes == b.Yes && slices.EqualFunc(a.L, b.L, sameEntry) && bytes.Equal(a.Data, b.Data)
}

// P9.4: an entry, byte by byte.
func TestPackByteByByte(t *testing.T) {
	for _, c := range []struct {
		e    api.Entry
		want []byte
	}{
		{api.Entry{Kind: api.Noop, Term: 1}, []byte{0x40, 0, 0, 0, 0, 0, 1, 0, 0}},
		{write(0x0102030405, "ab"), []byte{0x41, 0, 1, 2, 3, 4, 5, 0, 2, 'a', 'b'}},
		{config(1<<40, 31), []byte{0x42, 1, 0, 0, 0, 0, 0, 0, 1, 31}},
		{write(1, string(make([]byte, 4080))), append([]byte{0x41, 0, 0, 0, 0, 0, 1, 0x0f, 0xf0}, make([]byte, 4080)...)},
	} {
		b, e := entries.Pack(c.e)
		if e != api.OK || !bytes.Equal(b, c.want) {
			t.Errorf("Pack: % x %v, not % x", b, e, c.want)
		}
		if x, e := entries.Unpack(c.want); e != api.OK || !sameEntry(x, c.e) {
			t.Error("Unpack", x, e)
		}
	}
}

// P9.4, P9.8: entries are read as they were written, and those that cannot be are refused.
func TestPackOfEntries(t *testing.T) {
	for _, c := range entryCases() {
		b, e := entries.Pack(c.e)
		if c.can {
			if e != api.OK || !bytes.Equal(b, entryBytes(c.e)) {
				t.Error("Pack", c.e.Kind, c.e.Term, len(c.e.Cmd), e)
			}
			if x, e := entries.Unpack(b); e != api.OK || !sameEntry(x, c.e) {
				t.Error("Unpack", x, e)
			}
			continue
		}
		if e != api.ErrArg || len(b) != 0 {
			t.Error("Pack", c.e.Kind, c.e.Term, len(c.e.Cmd), b, e)
		}
	}
}

// P9.4: what is no entry, and which error comes first.
func TestUnpackRefuses(t *testing.T) {
	for _, c := range []struct {
		b    []byte
		want api.Errno
	}{
		{nil, api.ErrShort}, {[]byte{0x40}, api.ErrShort}, {make([]byte, 8), api.ErrShort},
		{[]byte{0x41, 0, 0, 0, 0, 0, 1, 0}, api.ErrShort}, {[]byte{0x41, 0, 0, 0, 0, 0, 1, 0, 1}, api.ErrShort}, {[]byte{0x41, 0, 0, 0, 0, 0, 1, 0, 2, 9}, api.ErrShort},
		{[]byte{0x99, 0, 0, 0, 0, 0, 1, 0, 2, 9}, api.ErrShort}, {[]byte{0x41, 0, 0, 0, 0, 0, 0, 255, 255}, api.ErrShort},
		{[]byte{0x41, 0, 0, 0, 0, 0, 1, 0, 0, 0}, api.ErrForm}, {[]byte{0x99, 0, 0, 0, 0, 0, 0, 0, 0, 0}, api.ErrForm}, {append(entryBytes(write(1, "a")), 'b'), api.ErrForm},
		{make([]byte, 9), api.ErrArg}, {[]byte{0, 0, 0, 0, 0, 0, 1, 0, 0}, api.ErrArg}, {[]byte{1, 0, 0, 0, 0, 0, 1, 0, 0}, api.ErrArg}, {[]byte{0x3f, 0, 0, 0, 0, 0, 1, 0, 0}, api.ErrArg},
		{[]byte{0x43, 0, 0, 0, 0, 0, 1, 0, 0}, api.ErrArg}, {[]byte{0xc1, 0, 0, 0, 0, 0, 1, 0, 0}, api.ErrArg}, {[]byte{0x61, 0, 0, 0, 0, 0, 1, 0, 0}, api.ErrArg}, {[]byte{0xff, 0, 0, 0, 0, 0, 1, 0, 0}, api.ErrArg},
		{[]byte{0x41, 0, 0, 0, 0, 0, 0, 0, 0}, api.ErrArg}, {[]byte{0x41, 1, 0, 0, 0, 0, 1, 0, 0}, api.ErrArg}, {[]byte{0x41, 255, 255, 255, 255, 255, 255, 0, 0}, api.ErrArg},
		{[]byte{0x42, 0, 0, 0, 0, 0, 1, 0, 0}, api.ErrArg}, {[]byte{0x42, 0, 0, 0, 0, 0, 1, 0, 1, 0}, api.ErrArg}, {[]byte{0x42, 0, 0, 0, 0, 0, 1, 0, 1, 32}, api.ErrArg}, {[]byte{0x42, 0, 0, 0, 0, 0, 1, 0, 2, 1, 1}, api.ErrArg},
		{entryBytes(write(1, string(make([]byte, 4081)))), api.ErrArg}, {entryBytes(write(1, string(make([]byte, 65535)))), api.ErrArg},
	} {
		if x, e := entries.Unpack(c.b); e != c.want || !sameEntry(x, api.Entry{}) {
			t.Errorf("Unpack(% x) = %v %v, not %v", c.b[:min(len(c.b), 12)], x, e, c.want)
		}
	}
}

// P9.8, P7: bytes that are read as an entry are just those that it is written as.
func TestUnpackOfAnyBytes(t *testing.T) {
	r := rand.New(rand.NewSource(3))
	read := 0
	for range 200000 {
		b := make([]byte, 7+r.Intn(6))
		r.Read(b[1:])
		b[0] = byte(0x3e + r.Intn(6))
		if r.Intn(2) == 0 {
			copy(b[1:], []byte{byte(r.Intn(3)), 0, 0})
		}
		if len(b) > 8 {
			b[7], b[8] = 0, byte(len(b)-9+r.Intn(2))
		}
		x, e := entries.Unpack(b)
		if e != api.OK {
			continue
		}
		read++
		if p, e := entries.Pack(x); e != api.OK || !bytes.Equal(p, b) {
			t.Fatalf("% x is read as %v, and written as % x", b, x, p)
		}
	}
	if read < 1000 {
		t.Error("few were read:", read)
	}
}

// P9.4: a message, byte by byte.
func TestPackMsgByteByByte(t *testing.T) {
	m := api.Msg{Kind: api.Add, From: 1, To: 2, Yes: true, Term: 3, At: 0x0102, AtTerm: 2, Commit: 0x010000000000, Round: 9, L: []api.Entry{write(3, "xy"), config(3, 7)}, Data: []byte("abc")}
	ahead := []byte{
		0xca, 7, 1, 2, 1,
		0, 0, 0, 0, 0, 3,
		0, 0, 0, 0, 1, 2,
		0, 0, 0, 0, 0, 2,
		1, 0, 0, 0, 0, 0,
		0, 0, 0, 0, 0, 9,
		0, 2,
		0x41, 0, 0, 0, 0, 0, 3, 0, 2, 'x', 'y',
		0x42, 0, 0, 0, 0, 0, 3, 0, 1, 7,
		0, 0, 0, 3, 'a', 'b', 'c',
	}
	b, e := entries.PackMsg(m)
	if e != api.OK || !bytes.Equal(b, sealed(ahead)) {
		t.Errorf("PackMsg: % x %v", b, e)
	}
	if x, e := entries.UnpackMsg(sealed(ahead)); e != api.OK || !sameMsg(x, m) {
		t.Error("UnpackMsg", x, e)
	}
	b, e = entries.PackMsg(api.Msg{})
	if want := sealed(append([]byte{0xca}, make([]byte, 40)...)); e != api.OK || !bytes.Equal(b, want) {
		t.Errorf("PackMsg of nothing: % x %v", b, e)
	}
	if x, e := entries.UnpackMsg(b); e != api.OK || !sameMsg(x, api.Msg{}) {
		t.Error("UnpackMsg of nothing", x, e)
	}
}

// frame is how many bytes a message has beside its entries and its data.
const frame = 45

// P9.4: how great a message may be.
func TestPackMsgUpToTheLimit(t *testing.T) {
	noops := func(n int) []api.Entry { return slices.Repeat([]api.Entry{{Term: 1}}, n) }
	for _, c := range []struct {
		m    api.Msg
		want api.Errno
	}{
		{api.Msg{Data: make([]byte, 65536-frame)}, api.OK}, {api.Msg{Data: make([]byte, 65536-frame+1)}, api.ErrSize}, {api.Msg{Data: make([]byte, 65536)}, api.ErrSize}, {api.Msg{Data: make([]byte, 65537)}, api.ErrSize}, {api.Msg{Data: make([]byte, 1<<20)}, api.ErrSize},
		{api.Msg{L: noops(4096)}, api.OK}, {api.Msg{L: noops(4097)}, api.ErrSize}, {api.Msg{L: noops(10000)}, api.ErrSize},
		{api.Msg{L: noops(4096), Data: make([]byte, 65536-frame-4096*9)}, api.OK}, {api.Msg{L: noops(4096), Data: make([]byte, 65536-frame-4096*9+1)}, api.ErrSize},
		{api.Msg{L: slices.Repeat([]api.Entry{write(1, string(make([]byte, 4080)))}, 16)}, api.OK}, {api.Msg{L: slices.Repeat([]api.Entry{write(1, string(make([]byte, 4080)))}, 17)}, api.ErrSize},
	} {
		b, e := entries.PackMsg(c.m)
		if e != c.want || e != api.OK && len(b) != 0 || len(b) > api.MaxBytes {
			t.Error("PackMsg", len(c.m.L), len(c.m.Data), len(b), e)
		}
		if e == api.OK {
			if x, e := entries.UnpackMsg(b); e != api.OK || !sameMsg(x, c.m) {
				t.Error("UnpackMsg", len(c.m.L), len(c.m.Data), e)
			}
		}
	}
}

// wrong is a message that can be, with one thing of it changed.
func wrong(change func(*api.Msg)) api.Msg {
	m := api.Msg{Kind: api.Add, From: 1, To: 2, Term: 3, At: 4, AtTerm: 2, Commit: 1, Round: 9, L: writes(3, 3), Data: []byte("x")}
	change(&m)
	return m
}

// P9.4: what cannot be sent, number by number, and which error comes first.
func TestPackMsgRefuses(t *testing.T) {
	for _, n := range []int{-1, 256, math.MinInt, math.MaxInt} {
		for _, m := range []api.Msg{wrong(func(m *api.Msg) { m.Kind = n }), wrong(func(m *api.Msg) { m.From = n }), wrong(func(m *api.Msg) { m.To = n })} {
			if b, e := entries.PackMsg(m); e != api.ErrArg || len(b) != 0 {
				t.Error("PackMsg", m, e)
			}
			m.Data = make([]byte, 65536)
			if b, e := entries.PackMsg(m); e != api.ErrSize || len(b) != 0 {
				t.Error("PackMsg, too great", e)
			}
		}
	}
	numbers := func(n int64) []api.Msg {
		return []api.Msg{wrong(func(m *api.Msg) { m.Term = n }), wrong(func(m *api.Msg) { m.At = n }), wrong(func(m *api.Msg) { m.AtTerm = n }), wrong(func(m *api.Msg) { m.Commit = n }), wrong(func(m *api.Msg) { m.Round = n })}
	}
	for _, n := range []int64{-1, highest + 1, math.MinInt64, math.MaxInt64} {
		for _, m := range numbers(n) {
			if b, e := entries.PackMsg(m); e != api.ErrArg || len(b) != 0 {
				t.Error("PackMsg", m, e)
			}
		}
	}
	for _, n := range []int64{0, highest} {
		for _, m := range numbers(n) {
			if b, e := entries.PackMsg(m); e != api.OK || !bytes.Equal(b, sealed(msgBytes(m))) {
				t.Error("PackMsg", m, e)
			}
		}
	}
	for _, n := range []int{0, 255} {
		m := wrong(func(m *api.Msg) { m.Kind, m.From, m.To = n, n, n })
		if b, e := entries.PackMsg(m); e != api.OK || !bytes.Equal(b, sealed(msgBytes(m))) {
			t.Error("PackMsg", m, e)
		}
	}
	for _, c := range entryCases() {
		m := wrong(func(m *api.Msg) { m.L = []api.Entry{write(9, "a"), c.e, write(1, "b")} })
		if b, e := entries.PackMsg(m); (e == api.OK) != c.can || !c.can && (e != api.ErrArg || len(b) != 0) {
			t.Error("PackMsg of an entry", c.e.Kind, c.e.Term, len(c.e.Cmd), e)
		}
	}
	// Entries that cannot be count by their bytes all the same.
	m := wrong(func(m *api.Msg) { m.L = []api.Entry{{Kind: 9, Cmd: make([]byte, 70000)}} })
	if b, e := entries.PackMsg(m); e != api.ErrSize || len(b) != 0 {
		t.Error("PackMsg", e)
	}
	m.L[0].Cmd = make([]byte, 60000)
	if b, e := entries.PackMsg(m); e != api.ErrArg || len(b) != 0 {
		t.Error("PackMsg", e)
	}
	m.L = make([]api.Entry, 4097)
	if b, e := entries.PackMsg(m); e != api.ErrSize || len(b) != 0 {
		t.Error("PackMsg", e)
	}
}

// changed is the sealed bytes of a message of which one byte ahead of the sum is another one.
func changed(m api.Msg, at int, c byte) []byte {
	b := msgBytes(m)
	b[at] = c
	return sealed(b)
}

// P9.4: what is no message, and which error comes first.
func TestUnpackMsgRefuses(t *testing.T) {
	m := wrong(func(*api.Msg) {})
	short := wrong(func(m *api.Msg) { m.L, m.Data = nil, nil })
	right := sealed(msgBytes(m))
	unlike := slices.Clone(right)
	unlike[len(unlike)-1] ^= 1
	for _, c := range []struct {
		name string
		b    []byte
		want api.Errno
	}{
		{"right", right, api.OK},
		{"too great", make([]byte, 65537), api.ErrSize}, {"too great, and with its sum", sealed(msgBytes(api.Msg{Data: make([]byte, 65536-frame+1)})), api.ErrSize},
		{"of no bytes", nil, api.ErrShort}, {"of three", []byte{0xca, 0, 0}, api.ErrShort},
		{"of another sum", unlike, api.ErrSum}, {"of four bytes", []byte{0, 0, 0, 1}, api.ErrSum}, {"of many", make([]byte, 65536), api.ErrSum}, {"of another mark and sum", append([]byte{0xcb}, right[1:]...), api.ErrSum},
		{"its sum alone", []byte{0, 0, 0, 0}, api.ErrForm}, {"another mark", changed(m, 0, 0xcb), api.ErrForm}, {"another mark, and short", sealed([]byte{0}), api.ErrForm},
		{"the mark alone", sealed([]byte{0xca}), api.ErrShort}, {"the head alone", sealed(msgBytes(m)[:35]), api.ErrShort}, {"half a count", sealed(msgBytes(m)[:36]), api.ErrShort},
		{"more entries than bytes", sealed(append(msgBytes(short)[:35], 0, 5, 0, 0, 0, 0)), api.ErrShort}, {"too many entries", sealed(append(msgBytes(short)[:35], 0x10, 0x01)), api.ErrSize}, {"as many as may be", sealed(append(msgBytes(short)[:35], 0x10, 0x00)), api.ErrShort},
		{"half an entry", sealed(msgBytes(m)[:42]), api.ErrShort}, {"an entry's head", sealed(msgBytes(m)[:44]), api.ErrShort}, {"no data", sealed(msgBytes(m)[:37+20]), api.ErrShort},
		{"data too great", sealed(append(msgBytes(short)[:37], 0, 1, 0, 1)), api.ErrSize}, {"data too few", sealed(append(msgBytes(short)[:37], 0, 1, 0, 0)), api.ErrShort},
		{"yes is 2", changed(m, 4, 2), api.ErrForm}, {"yes is 255", changed(m, 4, 255), api.ErrForm}, {"yes is 2, and short", sealed([]byte{0xca, 1, 2, 3, 2}), api.ErrShort}, {"yes is 2, and a term", sealed(append([]byte{0xca, 1, 2, 3, 2, 255}, msgBytes(short)[6:]...)), api.ErrForm},
		{"bytes are left", sealed(append(msgBytes(m), 0)), api.ErrForm}, {"bytes are left, and a term", sealed(append(append([]byte{0xca, 1, 2, 3, 0, 255}, msgBytes(short)[6:]...), 0)), api.ErrForm},
		{"the term", changed(m, 5, 2), api.ErrArg}, {"the place", changed(m, 11, 2), api.ErrArg}, {"its term", changed(m, 17, 2), api.ErrArg}, {"commit", changed(m, 23, 2), api.ErrArg}, {"the round", changed(m, 29, 2), api.ErrArg},
		{"an entry's kind", changed(m, 37, 1), api.ErrArg}, {"an entry's kind", changed(m, 37, 0x43), api.ErrArg}, {"an entry's term", changed(m, 38, 2), api.ErrArg}, {"an entry's term of 0", changed(m, 43, 0), api.ErrArg}, {"a Config of another length", changed(api.Msg{L: []api.Entry{write(1, "ab")}}, 37, 0x42), api.ErrArg},
		{"a command too great", sealed(msgBytes(api.Msg{L: []api.Entry{write(1, string(make([]byte, 4081)))}})), api.ErrArg},
	} {
		x, e := entries.UnpackMsg(c.b)
		if e != c.want || e != api.OK && !sameMsg(x, api.Msg{}) {
			t.Errorf("%s: %v %v, not %v", c.name, x, e, c.want)
		}
	}
}

func someMsg(r *rand.Rand) api.Msg {
	number := func() int64 {
		return []int64{0, 1, highest, r.Int63n(highest), r.Int63n(100)}[r.Intn(5)]
	}
	m := api.Msg{Kind: r.Intn(256), From: r.Intn(256), To: r.Intn(256), Yes: r.Intn(2) == 0, Term: number(), At: number(), AtTerm: number(), Commit: number(), Round: number()}
	m.L = someEntries(r, 1, 9, r.Intn(5))
	m.Data = make([]byte, r.Intn(20))
	r.Read(m.Data)
	return m
}

// P9.8, P7: messages are read as they were written.
func TestMessagesAtRandom(t *testing.T) {
	r := rand.New(rand.NewSource(4))
	for range 3000 {
		m := someMsg(r)
		b, e := entries.PackMsg(m)
		if e != api.OK || !bytes.Equal(b, sealed(msgBytes(m))) {
			t.Fatal("PackMsg", m, e)
		}
		if x, e := entries.UnpackMsg(b); e != api.OK || !sameMsg(x, m) {
			t.Fatal("UnpackMsg", x, e, "not", m)
		}
		// Bytes that are changed and sealed again are refused, or written as they are.
		b = b[:len(b)-4]
		b[r.Intn(len(b))] ^= byte(1 << r.Intn(8))
		b = sealed(b)
		if x, e := entries.UnpackMsg(b); e == api.OK {
			if p, e := entries.PackMsg(x); e != api.OK || !bytes.Equal(p, b) {
				t.Fatalf("% x is read as %v, and written as % x", b, x, p)
			}
		}
	}
}

// turn turns the bits of b from the number first on whose bits of mask are 1; the lowest bit of a byte is the first one, as the sum has it.
func turn(b []byte, first int, mask uint32) []byte {
	b = slices.Clone(b)
	for i := range 32 {
		if mask>>i&1 == 1 {
			b[(first+i)/8] ^= 1 << ((first + i) % 8)
		}
	}
	return b
}

// P9.8: up to 32 bits in a row that are turned, all ahead of the sum, or all within it, are seen.
func TestTurnedMessages(t *testing.T) {
	r := rand.New(rand.NewSource(5))
	refused := func(b []byte) {
		t.Helper()
		if x, e := entries.UnpackMsg(b); e == api.OK || !sameMsg(x, api.Msg{}) {
			t.Fatalf("% x: %v %v", b, x, e)
		}
	}
	for range 60 {
		b, e := entries.PackMsg(someMsg(r))
		ok(t, e)
		ahead := 8 * (len(b) - 4)
		for bit := range 8 * len(b) {
			refused(turn(b, bit, 1))
		}
		for range 300 {
			width := 2 + r.Intn(31)
			mask := r.Uint32()>>(32-width) | 1 | 1<<(width-1)
			refused(turn(b, r.Intn(ahead-width+1), mask))
			refused(turn(b, ahead+r.Intn(32-width+1), mask))
		}
	}
}

// P9.8: a message that is cut is refused.
func TestCutMessages(t *testing.T) {
	b, e := entries.PackMsg(wrong(func(*api.Msg) {}))
	ok(t, e)
	for n := range b {
		if x, e := entries.UnpackMsg(b[:n]); e == api.OK || !sameMsg(x, api.Msg{}) {
			t.Error("cut to", n, x, e)
		}
	}
}

// P9.4: what is handed in is not changed, and what is answered is new memory.
func TestBytesShareNothing(t *testing.T) {
	m := wrong(func(*api.Msg) {})
	b, e := entries.PackMsg(m)
	ok(t, e)
	if !sameMsg(m, wrong(func(*api.Msg) {})) {
		t.Error("a message has changed", m)
	}
	before := slices.Clone(b)
	x, e := entries.UnpackMsg(b)
	ok(t, e)
	if !bytes.Equal(b, before) {
		t.Error("bytes have changed")
	}
	clear(b)
	if !sameMsg(x, m) {
		t.Error("what was read has changed", x)
	}
	for i := range x.L {
		_ = append(x.L[i].Cmd, 9, 9, 9)
	}
	if !sameMsg(x, m) {
		t.Error("lists of one message share memory", x)
	}
	p, e := entries.Pack(write(3, "abc"))
	ok(t, e)
	y, e := entries.Unpack(p)
	ok(t, e)
	clear(p)
	if !sameEntry(y, write(3, "abc")) {
		t.Error("what was read has changed", y)
	}
}
