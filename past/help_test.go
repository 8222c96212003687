package past_test

import (
	"bytes"
	"math/rand"
	"slices"
	"testing"

	"caisson/api"
	"caisson/cdb"
	"caisson/node"
	"caisson/past"
	"caisson/resv"
)

func confOf(nodes, units, blocks, rho int) node.Conf {
	return node.Conf{Nodes: nodes, Units: units, Blocks: blocks, Rho: rho}
}

// small is the conf of most tests.
func small() node.Conf { return confOf(3, 2, 8, 1) }

func newWorld(t *testing.T, c node.Conf) *past.World {
	t.Helper()
	w, e := past.New(c)
	if e != api.OK || w == nil {
		t.Fatal("New", e)
	}
	return w
}

func build(c cdb.Cdb) []byte {
	b, e := cdb.Build(c)
	if e != api.OK {
		panic(e)
	}
	return b
}

// fill is n blocks, all bytes c.
func fill(c byte, n int) []byte { return bytes.Repeat([]byte{c}, 64*n) }

func write(lba, n int, c byte) past.Ask {
	return past.Ask{Cdb: build(cdb.Cdb{Op: cdb.Write10, Lba: uint64(lba), Len: n}), Data: fill(c, n)}
}

func read(lba, n int) past.Ask {
	return past.Ask{Cdb: build(cdb.Cdb{Op: cdb.Read10, Lba: uint64(lba), Len: n})}
}

func unmap(lba, n int) past.Ask {
	b, _ := cdb.PutRanges([]cdb.Range{{Lba: uint64(lba), N: n}})
	return past.Ask{Cdb: build(cdb.Cdb{Op: cdb.Unmap, Len: len(b)}), Data: b}
}

func ready() past.Ask { return past.Ask{Cdb: make([]byte, 16)} }

func sync() past.Ask { return past.Ask{Cdb: build(cdb.Cdb{Op: cdb.Sync10})} }

func reserve(action, kind int, key, next uint64) past.Ask {
	return past.Ask{Cdb: build(cdb.Cdb{Op: cdb.PrOut, Service: action, Type: kind, Len: 24}), Data: cdb.PutKeys(key, next)}
}

func keys(service, length int) past.Ask {
	return past.Ask{Cdb: build(cdb.Cdb{Op: cdb.PrIn, Service: service, Len: length})}
}

func ports() past.Ask {
	return past.Ask{Cdb: build(cdb.Cdb{Op: cdb.Ports, Service: 10, Len: 100})}
}

func of(lun int, a past.Ask) past.Ask {
	a.Lun = lun
	return a
}

func good(data []byte) api.Reply { return api.Reply{Status: api.Good, Data: data} }

func conflict() api.Reply { return api.Reply{Status: api.Conflict} }

func check(key, asc, ascq int) api.Reply {
	return api.Reply{Status: api.Check, Key: key, Asc: asc, Ascq: ascq}
}

func standing() api.Reply { return check(2, 4, 11) }

func same(a, b api.Reply) bool {
	return a.Status == b.Status && a.Key == b.Key && a.Asc == b.Asc && a.Ascq == b.Ascq && bytes.Equal(a.Data, b.Data)
}

func is(t *testing.T, what string, got, want api.Reply) {
	t.Helper()
	if !same(got, want) {
		t.Errorf("%s: %+v, want %+v", what, got, want)
	}
}

// anyAsk is some command on few blocks, each write with bytes of its own.
func anyAsk(r *rand.Rand, c node.Conf, n int) past.Ask {
	lba := r.Intn(2)
	var a past.Ask
	switch r.Intn(11) {
	case 0, 1, 2:
		a = write(lba, 1, byte(1+n))
	case 3, 4, 5:
		a = read(0, 2)
	case 6:
		a = unmap(lba, 1)
	case 7:
		a = ready()
	case 8:
		a = keys(r.Intn(3), 100)
	default:
		actions := []int{resv.Register, resv.Reserve, resv.Release, resv.Clear, resv.Preempt, resv.Ignore, resv.Ignore}
		kinds := []int{1, 3, 5, 6, 7, 8}
		a = reserve(actions[r.Intn(len(actions))], kinds[r.Intn(len(kinds))], uint64(r.Intn(3)), uint64(r.Intn(3)))
	}
	a.Lun = r.Intn(c.Units)
	return a
}

// told is a call that was told just what the world answers, which it changes.
func told(w *past.World, on int, a past.Ask, begin, end int) past.Call {
	return past.Call{Conn: on, A: a, Begin: begin, End: end, Told: true, R: w.Do(on, a)}
}

// anyCalls is some calls that were done one after another, as they were told: some are not told, some answers and times are other ones.
func anyCalls(t *testing.T, r *rand.Rand, c node.Conf, n int) []past.Call {
	w := newWorld(t, c)
	var l []past.Call
	for i := range n {
		x := told(w, r.Intn(2), anyAsk(r, c, i), 10*i-r.Intn(30), 10*i+r.Intn(30))
		switch r.Intn(8) {
		case 0:
			x.Told, x.R = false, api.Reply{}
		case 1:
			x.R = good(fill(byte(r.Intn(n)), r.Intn(3)))
		case 2:
			x.R = []api.Reply{standing(), {Status: api.Busy}, {Status: api.TaskFull}, conflict()}[r.Intn(4)]
		case 3:
			x.Begin, x.End = 10*i+20, 10*i+20+r.Intn(20)
		}
		l = append(l, x)
	}
	r.Shuffle(n, func(i, j int) { l[i], l[j] = l[j], l[i] })
	return l
}

// allOrders is all lists of numbers below n, none twice.
func allOrders(n int) [][]int {
	out := [][]int{nil}
	for at := 0; at < len(out); at++ {
		for i := range n {
			if !slices.Contains(out[at], i) {
				out = append(out, append(slices.Clone(out[at]), i))
			}
		}
	}
	return out
}

// isOrder is what the words say of an order, one by one.
func isOrder(l []past.Call, order []int) bool {
	for at, i := range order {
		if i < 0 || i >= len(l) || !past.Counts(l[i]) || slices.Contains(order[:at], i) {
			return false
		}
		for _, j := range order[:at] {
			if l[i].Told && l[i].End < l[j].Begin {
				return false
			}
		}
	}
	for i, c := range l {
		if past.Counts(c) && c.Told && !slices.Contains(order, i) {
			return false
		}
	}
	return true
}

// explains is what the words say of an order that explains calls.
func explains(c node.Conf, l []past.Call, order []int) bool {
	w, _ := past.New(c)
	for _, i := range order {
		if r := w.Do(l[i].Conn, l[i].A); l[i].Told && !same(r, l[i].R) {
			return false
		}
	}
	return true
}
