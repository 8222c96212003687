package node_test

import (
	"bytes"
	"encoding/binary"
	"math"
	"testing"

	"caisson/api"
	"caisson/cdb"
)

// Reads at the bounds of the unit, of what is read at once, and of a Lba.
func TestReads(t *testing.T) {
	k := alone(t, confOf(1, 2, 64, 1))
	k.good(1, write(0, 32, 1))
	k.good(1, write(32, 32, 2))
	all := append(fill(1, 32), fill(2, 32)...)
	for _, op := range []int{cdb.Read10, cdb.Read16} {
		for _, lba := range []uint64{0, 1, 31, 32, 63, 64, 65, 65535, 65536, 1<<32 - 1, 1 << 32, 1 << 63, math.MaxUint64} {
			for _, n := range []int{0, 1, 2, 32, 63, 64, 65, 66, 65535} {
				if op == cdb.Read10 && lba >= 1<<32 {
					continue
				}
				r := k.told(1, ask{cdb: build(cdb.Cdb{Op: op, Lba: lba, Len: n})})
				if lba <= 64 && int(lba)+n <= 64 {
					if r.Status != api.Good || !bytes.Equal(r.Data, all[64*int(lba):64*(int(lba)+n)]) {
						t.Error(op, lba, n, r.Status)
					}
				} else if !wrong(r, 0x21) {
					t.Error(op, lba, n, r)
				}
			}
		}
	}
	if r := k.told(1, ask{cdb: build(cdb.Cdb{Op: cdb.Read16, Len: 1<<32 - 1})}); !wrong(r, 0x21) {
		t.Error(r)
	}
	a := read(0, 1)
	a.lun = 1
	if b := k.good(1, a); !bytes.Equal(b, fill(0, 1)) { // the other unit
		t.Errorf("% x", b)
	}
}

// Who may not read is answered Conflict; but a Lba that can not be is told so.
func TestReadsOfWhoMayNot(t *testing.T) {
	k := alone(t, confOf(1, 1, 8, 1))
	k.good(1, reserve(0, 0, 0, 5))
	k.good(1, reserve(1, 3, 5, 0))
	if r := k.told(2, read(0, 1)); !is(r, api.Conflict, 0, 0, 0) {
		t.Error(r)
	}
	if r := k.told(2, read(9, 1)); !is(r, api.Conflict, 0, 0, 0) {
		t.Error(r)
	}
	if r := k.told(2, read(65536, 1)); !wrong(r, 0x21) {
		t.Error(r)
	}
	k.good(2, keys(0, 100)) // that may be read by all
}

// PrIn of every Service, with no reservation and one of each type, cut to each length.
func TestPrIn(t *testing.T) {
	for _, kind := range []int{0, 1, 3, 5, 6, 7, 8} {
		k := alone(t, confOf(1, 1, 8, 1))
		gen := uint32(0)
		if kind > 0 {
			k.good(9, reserve(0, 0, 0, 99))
			k.good(4, reserve(0, 0, 0, math.MaxUint64))
			k.good(4, reserve(1, kind, math.MaxUint64, 0))
			gen = 2
		}
		head := binary.BigEndian.AppendUint32(nil, gen)
		all := append(append([]byte(nil), head...), 0, 0, 0, 0)
		holder := append([]byte(nil), all...)
		if kind > 0 {
			all = append(append([]byte(nil), head...), 0, 0, 0, 16, 255, 255, 255, 255, 255, 255, 255, 255, 0, 0, 0, 0, 0, 0, 0, 99)
			key := []byte{255, 255, 255, 255, 255, 255, 255, 255}
			if kind >= 7 {
				key = make([]byte, 8)
			}
			holder = append(append(append(append([]byte(nil), head...), 0, 0, 0, 16), key...), 0, 0, 0, 0, 0, byte(kind), 0, 0)
		}
		for service := range 32 {
			for _, n := range []int{0, 1, 7, 8, 15, 16, 23, 24, 25, 65535} {
				r := k.told(2, keys(service, n))
				want := map[int][]byte{0: all, 1: holder}[service]
				if want == nil && !wrong(r, 0x24) {
					t.Error(kind, service, n, r)
				}
				if want != nil && !sameReply(r, api.Reply{Data: want[:min(n, len(want))]}) {
					t.Error(kind, service, n, r, want)
				}
			}
		}
	}
}

// PrOut of every Service, by a session: those that are there, and those that are not.
func TestPrOut(t *testing.T) {
	for service := range 32 {
		k := alone(t, confOf(1, 1, 8, 1))
		k.good(1, reserve(0, 0, 0, 5))
		r := k.told(1, reserve(service, 1, 5, 6))
		switch service {
		case 0, 1, 2, 3, 6:
			if !is(r, api.Good, 0, 0, 0) {
				t.Error(service, r)
			}
		case 4:
			if !is(r, api.Conflict, 0, 0, 0) { // nobody has the key 6
				t.Error(service, r)
			}
		default:
			if !wrong(r, 0x24) {
				t.Error(service, r)
			}
		}
	}
}

// Commands that are answered without the log do not come to it, nor take a note away.
func TestWithoutTheLog(t *testing.T) {
	k := alone(t, confOf(1, 1, 64, 1))
	k.good(1, reserve(0, 0, 0, 1))
	k.good(2, reserve(0, 0, 0, 2))
	k.good(2, reserve(3, 0, 2, 0)) // the nexus 1 is to be told something
	top := k.x.Top()
	for _, x := range []struct {
		a   ask
		asc int
	}{
		{write(0, 33, 1), 0x24},
		{ask{cdb: write(0, 1, 1).cdb}, 0x24},
		{ask{cdb: write(0, 1, 1).cdb, data: fill(1, 2)}, 0x24},
		{write(65535, 2, 1), 0x21},
		{unmap(cdb.Range{Lba: 0, N: 33}), 0x24},
		{unmap(cdb.Range{Lba: 65536, N: 1}), 0x21},
		{ask{cdb: reserve(0, 0, 0, 1).cdb, data: make([]byte, 25)}, 0x24},
	} {
		if r := k.told(1, x.a); !wrong(r, x.asc) {
			t.Errorf("%x: %+v", x.a.cdb, r)
		}
	}
	k.good(1, ask{cdb: simple(cdb.Inquiry)})
	if k.x.Top() != top || !k.x.State().Pending(1, 0) {
		t.Fatal(k.x.Top(), top)
	}
	for _, a := range []ask{write(65535, 1, 1), unmap(cdb.Range{Lba: 65535, N: 1})} { // these come to it
		if r := k.told(2, a); !is(r, api.Conflict, 0, 0, 0) && !wrong(r, 0x21) {
			t.Error(r)
		}
		top++
	}
	if k.x.Top() != top {
		t.Error(k.x.Top(), top)
	}
	if r := k.told(1, write(0, 32, 1)); !is(r, api.Check, 6, 0x2a, 3) {
		t.Error(r)
	}
	if r := k.told(1, write(0, 32, 1)); !is(r, api.Conflict, 0, 0, 0) {
		t.Error(r)
	}
	k.good(3, write(32, 32, 1))
	if r := k.told(3, write(33, 32, 1)); !wrong(r, 0x21) {
		t.Error(r)
	}
	k.good(3, unmap(cdb.Range{Lba: 0, N: 16}, cdb.Range{Lba: 48, N: 16}))
}
