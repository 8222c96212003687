package past_test

import (
	"bytes"
	"testing"

	"caisson/api"
	"caisson/cdb"
	"caisson/node"
	"caisson/past"
	"caisson/resv"
	"caisson/sense"
)

// P23.1: New, of each conf at its bounds and beyond.
func TestNew(t *testing.T) {
	for _, nodes := range []int{-1 << 63, -1, 0, 1, 5, 6, 1<<63 - 1} {
		for _, units := range []int{-1, 0, 1, 3, 4} {
			for _, blocks := range []int{-1, 0, 1, 64, 65} {
				for _, rho := range []int{-1, 0, 1, 4, 5} {
					c := confOf(nodes, units, blocks, rho)
					can := nodes >= 1 && nodes <= 5 && units >= 1 && units <= 3 && blocks >= 1 && blocks <= 64 && rho >= 1 && rho <= 4
					w, e := past.New(c)
					if can != (e == api.OK) || can != (w != nil) || !can && e != api.ErrArg {
						t.Fatal(c, w, e)
					}
				}
			}
		}
	}
}

// P23.1: of nil, and of a world that New did not make.
func TestNone(t *testing.T) {
	for _, w := range []*past.World{nil, {}} {
		for _, on := range []int{-1, 0, 15, 16} {
			for _, a := range []past.Ask{{}, read(0, 1), write(0, 1, 1), ports()} {
				is(t, "nil", w.Do(on, a), check(5, 0x25, 0))
			}
		}
		if w.Copy() != nil {
			t.Error("Copy")
		}
	}
}

// P23.1: a connection that can not be is refused, whatever it asks, and nothing changes.
func TestConn(t *testing.T) {
	for _, on := range []int{-1 << 63, -1, 16, 17, 1<<63 - 1} {
		w := newWorld(t, small())
		for _, a := range []past.Ask{{}, write(3, 1, 7), reserve(resv.Ignore, 0, 0, 5), read(3, 1), ready(), ports()} {
			is(t, "conn", w.Do(on, a), check(5, 0x24, 0))
		}
		is(t, "read", w.Do(0, read(3, 1)), good(fill(0, 1)))
		is(t, "keys", w.Do(0, keys(0, 100)), good(make([]byte, 8)))
	}
	w := newWorld(t, small())
	for on := range 16 {
		is(t, "write", w.Do(on, write(3, 1, byte(on))), good(nil))
		is(t, "read", w.Do(15-on, read(3, 1)), good(fill(byte(on), 1)))
	}
}

// P23.1: what is wrong or local is answered as by a machine that leads.
func TestLocal(t *testing.T) {
	c := small()
	w := newWorld(t, c)
	asks := []past.Ask{
		{}, {Cdb: []byte{0x28}}, {Cdb: make([]byte, 15)}, {Cdb: make([]byte, 17)}, {Cdb: bytes.Repeat([]byte{255}, 16)},
		{Cdb: append([]byte{0x28, 1}, make([]byte, 14)...)},
		of(2, read(0, 1)), of(-1, read(0, 1)), of(255, write(0, 1, 1)), of(1<<62, ready()), of(2, keys(0, 8)),
		of(9, ports()), of(-1, past.Ask{Cdb: build(cdb.Cdb{Op: cdb.ReportLuns, Len: 100})}),
	}
	for _, x := range []cdb.Cdb{
		{Op: cdb.Inquiry, Len: 36}, {Op: cdb.Inquiry, Len: 5}, {Op: cdb.Inquiry}, {Op: cdb.Inquiry, Page: 1, Len: 9}, {Op: cdb.Inquiry, Vital: true, Page: 0x83, Len: 99},
		{Op: cdb.ReadCapacity}, {Op: cdb.ReportLuns, Len: 100}, {Op: cdb.ReportLuns, Page: 3, Len: 100}, {Op: cdb.ReportLuns, Len: 9},
		{Op: cdb.RequestSense, Len: 18}, {Op: cdb.Ports, Service: 10, Len: 200}, {Op: cdb.Ports, Service: 9, Len: 200},
	} {
		asks = append(asks, past.Ask{Cdb: build(x)}, of(1, past.Ask{Cdb: build(x), Data: fill(1, 1)}))
	}
	for _, a := range asks {
		want, ok := node.Local(c, 0, 0, a.Lun, a.Cdb)
		if !ok {
			t.Fatalf("%x is not local", a.Cdb)
		}
		is(t, "local", w.Do(3, a), want)
	}
	b, _ := sense.Capacity(8)
	is(t, "capacity", w.Do(0, past.Ask{Cdb: build(cdb.Cdb{Op: cdb.ReadCapacity})}), good(b))
}

// P23.1: what is of the log, and what is answered without it.
func TestLog(t *testing.T) {
	w := newWorld(t, small())
	steps := []struct {
		on   int
		a    past.Ask
		want api.Reply
	}{
		{1, write(5, 2, 7), good(nil)},
		{2, read(4, 4), good(bytes.Join([][]byte{fill(0, 1), fill(7, 2), fill(0, 1)}, nil))},
		{2, of(1, read(5, 1)), good(fill(0, 1))},
		{1, past.Ask{Cdb: build(cdb.Cdb{Op: cdb.Write16, Lba: 5, Len: 1}), Data: fill(8, 1)}, good(nil)},
		{1, past.Ask{Cdb: build(cdb.Cdb{Op: cdb.Read16, Lba: 5, Len: 2})}, good(append(fill(8, 1), fill(7, 1)...))},
		{1, unmap(5, 1), good(nil)},
		{1, read(5, 2), good(append(fill(0, 1), fill(7, 1)...))},
		{1, ready(), good(nil)},
		{1, sync(), good(nil)},
		{1, write(0, 0, 0), good(nil)},
		{1, write(7, 2, 1), check(5, 0x21, 0)},
		{1, unmap(8, 1), check(5, 0x21, 0)},
		{1, unmap(65536, 1), check(5, 0x21, 0)},
		{1, past.Ask{Cdb: write(1, 1, 1).Cdb}, check(5, 0x24, 0)},
		{1, past.Ask{Cdb: write(1, 1, 1).Cdb, Data: fill(1, 2)}, check(5, 0x24, 0)},
		{1, write(1, 33, 1), check(5, 0x24, 0)},
		{1, past.Ask{Cdb: unmap(1, 1).Cdb, Data: fill(1, 1)}, check(5, 0x24, 0)},
		{1, past.Ask{Cdb: reserve(0, 0, 0, 1).Cdb, Data: make([]byte, 23)}, check(5, 0x24, 0)},
		{1, reserve(5, 0, 0, 1), check(5, 0x24, 0)},
		{1, past.Ask{Cdb: read(6, 1).Cdb, Data: fill(1, 1)}, good(fill(7, 1))},
		{1, past.Ask{Cdb: ready().Cdb, Data: fill(1, 1)}, good(nil)},
	}
	for i, x := range steps {
		if got := w.Do(x.on, x.a); !same(got, x.want) {
			t.Fatalf("%d: %+v, want %+v", i, got, x.want)
		}
	}
}

// P23.1: what is read at once, at its bounds.
func TestRead(t *testing.T) {
	w := newWorld(t, confOf(1, 1, 64, 1))
	w.Do(0, write(63, 1, 9))
	for _, x := range []struct {
		c    cdb.Cdb
		want api.Reply
	}{
		{cdb.Cdb{Op: cdb.Read10, Lba: 63, Len: 1}, good(fill(9, 1))},
		{cdb.Cdb{Op: cdb.Read10, Lba: 0, Len: 64}, good(append(fill(0, 63), fill(9, 1)...))},
		{cdb.Cdb{Op: cdb.Read10, Lba: 64}, good(nil)},
		{cdb.Cdb{Op: cdb.Read10, Lba: 65}, check(5, 0x21, 0)},
		{cdb.Cdb{Op: cdb.Read10, Lba: 63, Len: 2}, check(5, 0x21, 0)},
		{cdb.Cdb{Op: cdb.Read10, Lba: 0, Len: 65}, check(5, 0x21, 0)},
		{cdb.Cdb{Op: cdb.Read16, Lba: 65535, Len: 1}, check(5, 0x21, 0)},
		{cdb.Cdb{Op: cdb.Read16, Lba: 65536}, check(5, 0x21, 0)},
		{cdb.Cdb{Op: cdb.Read16, Lba: 1<<64 - 1, Len: 1}, check(5, 0x21, 0)},
		{cdb.Cdb{Op: cdb.Read16, Lba: 1<<64 - 1, Len: 1<<32 - 1}, check(5, 0x21, 0)},
		{cdb.Cdb{Op: cdb.Read16, Lba: 1 << 63, Len: 0}, check(5, 0x21, 0)},
	} {
		is(t, "read", w.Do(1, past.Ask{Cdb: build(x.c)}), x.want)
	}
}

// P23.1: keys and holders, of each kind of reservation.
func TestKeys(t *testing.T) {
	for _, kind := range []int{1, 3, 5, 6, 7, 8} {
		w := newWorld(t, small())
		for _, service := range []int{0, 1} {
			is(t, "nothing yet", w.Do(4, keys(service, 100)), good(make([]byte, 8)))
		}
		w.Do(3, reserve(resv.Ignore, 0, 0, 33))
		w.Do(1, reserve(resv.Ignore, 0, 0, 11))
		b, _ := sense.Keys(2, []uint64{11, 33})
		is(t, "keys", w.Do(4, keys(0, 100)), good(b))
		is(t, "keys, cut", w.Do(4, keys(0, 10)), good(b[:10]))
		is(t, "of the other unit", w.Do(4, of(1, keys(0, 100))), good(make([]byte, 8)))
		b, _ = sense.Holder(2, 0, 0)
		is(t, "nobody", w.Do(1, keys(1, 100)), good(b))
		is(t, "reserve", w.Do(3, reserve(resv.Reserve, kind, 33, 0)), good(nil))
		key := uint64(33)
		if kind >= 7 {
			key = 0
		}
		b, _ = sense.Holder(2, key, kind)
		is(t, "holder", w.Do(1, keys(1, 100)), good(b))
		is(t, "holder, cut", w.Do(1, keys(1, 3)), good(b[:3]))
		is(t, "cut to nothing", w.Do(1, keys(1, 0)), good(nil))
		for _, service := range []int{2, 3, 31} {
			is(t, "other", w.Do(1, keys(service, 100)), check(5, 0x24, 0))
		}
	}
}

// P23.1: what a nexus is to be told it is told by what is read, too, but not by what is answered without the log.
func TestNotes(t *testing.T) {
	for _, a := range []past.Ask{read(0, 1), read(1<<16, 1), keys(0, 100), keys(1, 100), keys(7, 100), ready(), sync(), write(0, 1, 5), unmap(0, 1), reserve(resv.Ignore, 0, 0, 9)} {
		w := newWorld(t, small())
		w.Do(1, reserve(resv.Ignore, 0, 0, 11))
		w.Do(2, reserve(resv.Ignore, 0, 0, 22))
		w.Do(1, reserve(resv.Reserve, resv.WritesRegs, 11, 0))
		w.Do(1, write(0, 1, 1))
		is(t, "preempt", w.Do(2, reserve(resv.Preempt, resv.WritesRegs, 22, 11)), good(nil))
		is(t, "wrong", w.Do(1, past.Ask{Cdb: write(0, 1, 1).Cdb}), check(5, 0x24, 0))
		is(t, "local", w.Do(1, past.Ask{Cdb: build(cdb.Cdb{Op: cdb.Inquiry})}), good(nil))
		is(t, "the other unit", w.Do(1, of(1, read(0, 1))), good(fill(0, 1)))
		is(t, "another one", w.Do(2, read(0, 1)), good(fill(1, 1)))
		is(t, "the note", w.Do(1, a), check(6, 0x2a, resv.Unregistered))
		is(t, "fenced", w.Do(1, write(0, 1, 2)), conflict())
		is(t, "read", w.Do(1, read(0, 1)), good(fill(1, 1)))
		is(t, "again", w.Do(1, reserve(resv.Ignore, 0, 0, 12)), good(nil))
		is(t, "writes", w.Do(1, write(0, 1, 3)), good(nil))
	}
}

// P23.1: notes are of a unit each.
func TestNotesOfUnits(t *testing.T) {
	for _, a := range []past.Ask{read(0, 1), keys(0, 100), ready()} {
		w := newWorld(t, small())
		for _, on := range []int{1, 2} {
			w.Do(on, of(1, reserve(resv.Ignore, 0, 0, uint64(on))))
		}
		is(t, "clear", w.Do(2, of(1, reserve(resv.Clear, 0, 2, 0))), good(nil))
		is(t, "no note", w.Do(1, write(0, 1, 1)), good(nil))
		is(t, "the note", w.Do(1, of(1, a)), check(6, 0x2a, resv.Preempted))
		is(t, "read", w.Do(1, of(1, read(0, 1))), good(fill(0, 1)))
	}
}

// P23.1: who may not read is told so, but of a block that can not be read by anybody.
func TestReadConflict(t *testing.T) {
	w := newWorld(t, small())
	w.Do(1, reserve(resv.Ignore, 0, 0, 1))
	w.Do(1, reserve(resv.Reserve, resv.All, 1, 0))
	is(t, "read", w.Do(2, read(0, 1)), conflict())
	is(t, "read", w.Do(2, read(65535, 1)), conflict())
	for _, lba := range []uint64{65536, 1 << 63, 1<<64 - 1} {
		is(t, "read", w.Do(2, past.Ask{Cdb: build(cdb.Cdb{Op: cdb.Read16, Lba: lba, Len: 1})}), check(5, 0x21, 0))
	}
	is(t, "read", w.Do(1, read(65535, 1)), check(5, 0x21, 0))
	is(t, "keys", w.Do(2, keys(0, 8)), good([]byte{0, 0, 0, 1, 0, 0, 0, 8}))
}

// P23.1: each command has a number of its own, so that none is taken for one that was done.
func TestNumbers(t *testing.T) {
	w := newWorld(t, small())
	for n := range 200 {
		is(t, "write", w.Do(n%3, write(n%8, 1, byte(n))), good(nil))
		is(t, "read", w.Do(n%5, read(n%8, 1)), good(fill(byte(n), 1)))
	}
}

// P23.1: Copy is another world, which goes on by itself.
func TestCopy(t *testing.T) {
	w := newWorld(t, small())
	w.Do(1, write(1, 1, 1))
	c := w.Copy()
	w.Do(1, write(1, 1, 2))
	c.Do(2, write(2, 1, 3))
	is(t, "w", w.Do(1, read(1, 2)), good(append(fill(2, 1), fill(0, 1)...)))
	is(t, "c", c.Do(1, read(1, 2)), good(append(fill(1, 1), fill(3, 1)...)))
	for n := range 70 { // numbers go on where they were
		is(t, "c", c.Do(1, write(3, 1, byte(n))), good(nil))
	}
	is(t, "c", c.Do(1, read(3, 1)), good(fill(69, 1)))
}

// Rules 4 and 5: nothing that is handed in is changed or kept, and answers are new memory.
func TestMemory(t *testing.T) {
	w := newWorld(t, small())
	a := write(1, 1, 7)
	w.Do(1, a)
	if !bytes.Equal(a.Data, fill(7, 1)) || !bytes.Equal(a.Cdb, write(1, 1, 0).Cdb) {
		t.Error("changed")
	}
	clear(a.Data)
	clear(a.Cdb)
	for range 2 {
		for _, a := range []past.Ask{read(1, 1), keys(0, 8), {Cdb: build(cdb.Cdb{Op: cdb.Inquiry, Len: 36})}} {
			r := w.Do(1, a)
			is(t, "again", w.Do(1, a), r)
			for i := range r.Data {
				r.Data[i] ^= 255
			}
			_ = append(r.Data, 1, 2, 3)
		}
		is(t, "read", w.Do(1, read(1, 1)), good(fill(7, 1)))
	}
}
