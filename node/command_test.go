package node_test

import (
	"math"
	"reflect"
	"slices"
	"testing"

	"caisson/api"
	"caisson/cdb"
	"caisson/node"
	"caisson/resv"
	"caisson/unit"
)

// of holds Cmd against what it should be.
func of(t *testing.T, lun int, b, data []byte, want unit.Cmd, is bool, asc int) {
	t.Helper()
	c := confOf(3, 2, 9, 1)
	x, ok, r := node.Cmd(c, lun, b, data)
	right := api.Reply{}
	if asc != 0 {
		right = api.Reply{Status: api.Check, Key: 5, Asc: asc}
	}
	if len(x.Changes) == 0 {
		x.Changes = nil
	}
	if ok != is || !reflect.DeepEqual(x, want) || !sameReply(r, right) {
		t.Errorf("% x of %d with %d bytes: %+v %v %+v, not %+v %v %+v", b, lun, len(data), x, ok, r, want, is, right)
	}
}

// changes is n blocks from lba on, with the bytes of data; none of them taken away.
func changes(lba, n int, data []byte) []api.Change {
	var l []api.Change
	for i := range n {
		l = append(l, api.Change{Lba: lba + i, Data: data[64*i : 64*i+64]})
	}
	return l
}

func pattern(n int) []byte {
	b := make([]byte, n)
	for i := range b {
		b[i] = byte(i*7 + i/64)
	}
	return b
}

// P21.2: Writes of 0 to 32 blocks, of 33, of other data than are theirs, up to the block 65535 and beyond.
func TestWrites(t *testing.T) {
	for _, op := range []int{cdb.Write10, cdb.Write16} {
		for _, n := range []int{0, 1, 2, 31, 32, 33, 64, 65535} {
			for _, lba := range []uint64{0, 1, 8, 9, 65503, 65504, 65505, 65534, 65535, 65536, 65537, 1 << 31, 1<<32 - 1, 1 << 32, 1 << 48, 1<<63 - 1, 1 << 63, math.MaxUint64 - 31, math.MaxUint64} {
				if op == cdb.Write10 && lba >= 1<<32 {
					continue
				}
				b := build(cdb.Cdb{Op: op, Lba: lba, Len: n})
				for _, more := range []int{-64, -1, 0, 1, 64} {
					have := 64*min(n, 64) + more
					if have < 0 {
						continue
					}
					data := pattern(have)
					switch {
					case n > 32 || more != 0:
						of(t, 1, b, data, unit.Cmd{}, true, 0x24)
					case n > 0 && (lba > 65535 || lba+uint64(n) > 65536):
						of(t, 1, b, data, unit.Cmd{}, true, 0x21)
					default:
						of(t, 1, b, data, unit.Cmd{Kind: unit.Write, Lun: 1, Changes: changes(int(lba), n, data)}, true, 0)
					}
				}
			}
		}
	}
	b := build(cdb.Cdb{Op: cdb.Write16, Len: 1<<32 - 1})
	of(t, 0, b, nil, unit.Cmd{}, true, 0x24)
	of(t, 0, b, pattern(4096), unit.Cmd{}, true, 0x24)
}

// P21.2: Unmaps of 0 to 32 blocks together, of 33, whose data are others, up to the block 65535 and beyond.
func TestUnmaps(t *testing.T) {
	gone := func(l ...int) unit.Cmd {
		x := unit.Cmd{Kind: unit.Unmap, Lun: 1}
		for _, lba := range l {
			x.Changes = append(x.Changes, api.Change{Lba: lba})
		}
		return x
	}
	run := func(lba, n int) []int {
		var l []int
		for i := range n {
			l = append(l, lba+i)
		}
		return l
	}
	type ranges = []cdb.Range
	many := slices.Repeat(ranges{{Lba: 7, N: 1}}, 32)
	for _, x := range []struct {
		l    ranges
		asc  int
		want []int
	}{
		{nil, 0, nil},
		{ranges{{Lba: 5, N: 0}}, 0, nil},
		{ranges{{Lba: math.MaxUint64, N: 0}}, 0, nil},
		{ranges{{Lba: 5, N: 1}}, 0, run(5, 1)},
		{ranges{{Lba: 5, N: 32}}, 0, run(5, 32)},
		{ranges{{Lba: 5, N: 33}}, 0x24, nil},
		{ranges{{Lba: 5, N: 1<<32 - 1}}, 0x24, nil},
		{slices.Repeat(ranges{{Lba: 5, N: 1<<32 - 1}}, 32), 0x24, nil},
		{ranges{{Lba: 5, N: 16}, {Lba: 0, N: 16}}, 0, append(run(5, 16), run(0, 16)...)},
		{ranges{{Lba: 5, N: 16}, {Lba: 0, N: 17}}, 0x24, nil},
		{ranges{{Lba: 5, N: 2}, {Lba: 5, N: 2}}, 0, []int{5, 6, 5, 6}},
		{many, 0, slices.Repeat([]int{7}, 32)},
		{ranges{{Lba: 65535, N: 1}}, 0, []int{65535}},
		{ranges{{Lba: 65504, N: 32}}, 0, run(65504, 32)},
		{ranges{{Lba: 65535, N: 2}}, 0x21, nil},
		{ranges{{Lba: 65536, N: 1}}, 0x21, nil},
		{ranges{{Lba: 0, N: 1}, {Lba: 65536, N: 1}}, 0x21, nil},
		{ranges{{Lba: math.MaxUint64, N: 1}}, 0x21, nil},
		{ranges{{Lba: math.MaxUint64, N: 32}}, 0x21, nil},
		{ranges{{Lba: math.MaxUint64 - 15, N: 32}}, 0x21, nil},
		{ranges{{Lba: 65536, N: 33}}, 0x24, nil},
	} {
		a := unmap(x.l...)
		want := unit.Cmd{}
		if x.asc == 0 {
			want = gone(x.want...)
		}
		of(t, 1, a.cdb, a.data, want, true, x.asc)
		of(t, 1, a.cdb, a.data[:len(a.data)-1], unit.Cmd{}, true, 0x24)
		of(t, 1, a.cdb, append(slices.Clone(a.data), 0), unit.Cmd{}, true, 0x24)
		of(t, 1, a.cdb, nil, unit.Cmd{}, true, 0x24)
	}
	a := unmap(cdb.Range{Lba: 5, N: 1})
	for _, n := range []int{0, 8, len(a.data) - 1, len(a.data) + 1, 65535} { // its Len is not what comes
		of(t, 1, build(cdb.Cdb{Op: cdb.Unmap, Len: n}), a.data, unit.Cmd{}, true, 0x24)
	}
	for i := range a.data { // what is not read as ranges
		b := slices.Clone(a.data)
		b[i] ^= 0x80
		if _, e := cdb.Ranges(b); e != api.OK {
			of(t, 1, a.cdb, b, unit.Cmd{}, true, 0x24)
		}
	}
	of(t, 1, build(cdb.Cdb{Op: cdb.Unmap}), nil, unit.Cmd{}, true, 0x24)
	of(t, 1, build(cdb.Cdb{Op: cdb.Unmap, Len: 33*16 + 8}), slices.Concat([]byte{0x02, 0x16, 0x02, 0x10, 0, 0, 0, 0}, make([]byte, 33*16)), unit.Cmd{}, true, 0x24)
}

// P21.2: PrOut of every Service and Type, and with other data.
func TestReservations(t *testing.T) {
	for service := range 32 {
		for kind := range 16 {
			a := reserve(service, kind, 0x0102030405060708, math.MaxUint64)
			of(t, 1, a.cdb, a.data, unit.Cmd{Kind: unit.Pr, Lun: 1, Pr: resv.Cmd{Action: service, Key: 0x0102030405060708, New: math.MaxUint64, Type: kind}}, true, 0)
			for _, n := range []int{0, 1, 16, 23, 25, 48} {
				of(t, 1, a.cdb, make([]byte, n), unit.Cmd{}, true, 0x24)
			}
			for i := 16; i < 24; i++ {
				b := slices.Clone(a.data)
				b[i] = 1
				of(t, 1, a.cdb, b, unit.Cmd{}, true, 0x24)
			}
			for _, n := range []int{0, 23, 25, 1<<32 - 1} {
				of(t, 1, build(cdb.Cdb{Op: cdb.PrOut, Service: service, Type: kind, Len: n}), a.data, unit.Cmd{}, true, 0x24)
			}
			of(t, 1, build(cdb.Cdb{Op: cdb.PrOut, Service: service, Type: kind, Len: 25}), make([]byte, 25), unit.Cmd{}, true, 0x24)
		}
	}
}

// P21.2: TestUnitReady and Sync10 are Pops, whatever their fields and data; all else is not of the log.
func TestPopsAndOthers(t *testing.T) {
	for _, data := range [][]byte{nil, make([]byte, 64), pattern(5000)} {
		for lun := range 2 {
			of(t, lun, simple(cdb.TestUnitReady), data, unit.Cmd{Kind: unit.Pop, Lun: lun}, true, 0)
			of(t, lun, build(cdb.Cdb{Op: cdb.Sync10, Lba: 1<<32 - 1, Len: 65535}), data, unit.Cmd{Kind: unit.Pop, Lun: lun}, true, 0)
			for _, op := range []int{cdb.RequestSense, cdb.Inquiry, cdb.ReadCapacity, cdb.Read10, cdb.Read16, cdb.PrIn, cdb.ReportLuns, cdb.Ports} {
				of(t, lun, simple(op), data, unit.Cmd{}, false, 0)
			}
		}
	}
}

// P21.2: what is wrong of its bytes or its unit is not of the log: any machine answers it.
func TestCmdOfWrong(t *testing.T) {
	a := write(3, 1, 5)
	for _, lun := range []int{-1, 2, 255, 256, math.MinInt, math.MaxInt} {
		of(t, lun, a.cdb, a.data, unit.Cmd{}, false, 0)
		of(t, lun, simple(cdb.TestUnitReady), nil, unit.Cmd{}, false, 0)
	}
	for _, b := range [][]byte{nil, a.cdb[:15], append(slices.Clone(a.cdb), 0), {0xff, 15: 0}, {0x00, 15: 1}, {0x2a, 1, 15: 0}} {
		of(t, 0, b, a.data, unit.Cmd{}, false, 0)
	}
	for op := range 256 {
		if b := append([]byte{byte(op)}, make([]byte, 15)...); !slices.Contains(operations, op) {
			of(t, 0, b, nil, unit.Cmd{}, false, 0)
		}
	}
}

// Rule 5: what comes of data does not hang on them any more.
func TestCmdSharesNothing(t *testing.T) {
	a := write(3, 2, 5)
	x, _, _ := node.Cmd(confOf(1, 1, 9, 1), 0, a.cdb, a.data)
	clear(a.data)
	_ = append(x.Changes[0].Data, 99)
	if x.Changes[0].Data[0] != 5 || x.Changes[1].Data[0] != 5 {
		t.Error(x)
	}
}
