package target_test

import (
	"bytes"
	"slices"
	"sync"
	"testing"

	"caisson/api"
	"caisson/cdb"
	"caisson/conn"
	"caisson/past"
	"caisson/sense"
	"caisson/target"
)

// P24.1: New, of each conf at its bounds and beyond.
func TestNew(t *testing.T) {
	for nodes := -1; nodes <= 6; nodes++ {
		for _, units := range []int{-1, 0, 1, 3, 4} {
			for _, blocks := range []int{0, 1, 64, 65, 1 << 62} {
				for _, rho := range []int{0, 1, 4, 5} {
					c := confOf(nodes, units, blocks, rho)
					can := nodes >= 1 && nodes <= 5 && units >= 1 && units <= 3 && blocks >= 1 && blocks <= 64 && rho >= 1 && rho <= 4
					x, e := target.New(c)
					if can != (e == api.OK) || can != (x != nil) || !can && e != api.ErrArg {
						t.Fatal(c, x, e)
					}
					if can && (x.Cluster().Nodes() != nodes || len(x.Calls()) != 0 || x.Told() != 0) {
						t.Fatal(c)
					}
				}
			}
		}
	}
}

// P24.1: of nil, and of a target that New did not make.
func TestNone(t *testing.T) {
	for _, x := range []*target.Target{nil, {}} {
		r, ok := x.Do(1, read(0, 1))
		n, calm := x.Quiet()
		if ok || !same(r, api.Reply{}) || calm || n != 0 || x.Send(1, 0, read(0, 1)) != -1 || x.Step(api.Event{Kind: api.EvRound}) != 0 {
			t.Error("Do, Quiet, Send, Step", r, ok, n, calm)
		}
		if x.Power(nil) != api.ErrNil || x.Power([][]int{{1}}) != api.ErrNil || x.Restart() != api.ErrNil {
			t.Error("Power, Restart")
		}
		if len(x.Calls()) != 0 || x.Told() != 0 || x.Bound() != 0 || x.Close() || x.Close() || x.Cluster() != nil {
			t.Error("Calls, Told, Bound, Close, Cluster")
		}
	}
}

// P24.2: what is not sent, and changes nothing.
func TestRefused(t *testing.T) {
	x := calmTarget(t, confOf(3, 2, 64, 1))
	w := write(1, 32, 7)
	for _, on := range []int{-1 << 63, -1, 16, 1<<63 - 1} {
		if x.Send(on, 0, w) != -1 {
			t.Error(on)
		}
	}
	for _, at := range []int{-1 << 63, -1, 3, 4, 5, 1<<63 - 1} {
		if x.Send(0, at, w) != -1 {
			t.Error(at)
		}
	}
	for _, n := range []int{0, 1, 6, 10, 15, 17, 100} {
		if x.Send(0, 0, past.Ask{Cdb: make([]byte, n)}) != -1 {
			t.Error(n)
		}
	}
	if x.Send(0, 0, past.Ask{}) != -1 || x.Send(0, 0, past.Ask{Cdb: w.Cdb, Data: make([]byte, 2049)}) != -1 || x.Send(0, 0, past.Ask{Cdb: w.Cdb, Data: make([]byte, 1<<20)}) != -1 {
		t.Error("data")
	}
	for _, lun := range []int{-1 << 63, -1, 256, 1<<63 - 1} {
		if x.Send(0, 0, of(lun, w)) != -1 {
			t.Error(lun)
		}
	}
	if len(x.Calls()) != 0 || x.Told() != 0 {
		t.Error(x.Calls())
	}
	for on := range 16 {
		for at := range 3 {
			if x.Cluster().Node(at).Stage(on) != 0 {
				t.Error("a session", on, at)
			}
		}
	}
	dead := (x.Cluster().Leader() + 1) % 3
	x.Step(api.Event{Kind: api.EvFail, Node: dead})
	does(t, x, 1, w, good(nil))
	if x.Cluster().Up(dead) || x.Send(1, dead, w) != -1 {
		t.Error("it does not work")
	}
}

// P24.2: what is just still sent.
func TestSent(t *testing.T) {
	x := calmTarget(t, confOf(1, 1, 64, 1))
	sends(t, x, 0, 0, write(0, 32, 7), 0, good(nil)) // 2048 data
	sends(t, x, 15, 0, read(0, 33), 0, good(append(fill(7, 32), fill(0, 1)...)))
	sends(t, x, 15, 0, read(0, 64), 0, good(append(fill(7, 32), fill(0, 32)...)))
	sends(t, x, 3, 0, of(255, ready()), 0, check(5, 0x25, 0))
	sends(t, x, 3, 0, of(1, ready()), 0, check(5, 0x25, 0))
	sends(t, x, 3, 0, past.Ask{Cdb: bytes.Repeat([]byte{255}, 16)}, 0, check(5, 0x20, 0))
	sends(t, x, 3, 0, past.Ask{Cdb: bytes.Repeat([]byte{255}, 16), Data: fill(1, 3)}, 0, check(5, 0x20, 0))
	sends(t, x, 3, 0, past.Ask{Cdb: append([]byte{0x28, 1}, make([]byte, 14)...)}, 0, check(5, 0x24, 0))
	// A length of data beyond four bytes does not go round.
	sends(t, x, 3, 0, past.Ask{Cdb: build(cdb.Cdb{Op: cdb.Read16, Len: 1 << 26})}, 0, check(5, 0x21, 0))
	sends(t, x, 3, 0, past.Ask{Cdb: build(cdb.Cdb{Op: cdb.Read16, Len: 1<<32 - 1})}, 0, check(5, 0x21, 0))
	sends(t, x, 3, 0, past.Ask{Cdb: build(cdb.Cdb{Op: cdb.ReportLuns, Len: 1<<32 - 1})}, 0, good(luns(1)))
	// Without data, or with other ones than it asks for, it is sent as it is.
	sends(t, x, 3, 0, past.Ask{Cdb: write(0, 1, 1).Cdb}, 0, check(5, 0x24, 0))
	sends(t, x, 3, 0, past.Ask{Cdb: write(0, 1, 1).Cdb, Data: fill(1, 2)}, 0, check(5, 0x24, 0))
	sends(t, x, 3, 0, past.Ask{Cdb: ready().Cdb, Data: fill(1, 2)}, 0, good(nil))
	sends(t, x, 3, 0, past.Ask{Cdb: read(0, 0).Cdb, Data: fill(1, 2)}, 0, good(nil))
	// Bits 6 and 5 together the session answers itself (20).
	sends(t, x, 3, 0, past.Ask{Cdb: read(0, 1).Cdb, Data: fill(1, 1)}, 0, check(5, 0x24, 0))
	sends(t, x, 3, 0, past.Ask{Cdb: local().Cdb, Data: []byte{1}}, 0, check(5, 0x24, 0))
	does(t, x, 4, read(0, 1), good(fill(7, 1)))
}

func luns(n int) []byte {
	b, _ := sense.Luns(n)
	return b
}

// P24.2: calls have numbers from 0 on; their times are one more each time that one begins, or is told.
func TestCalls(t *testing.T) {
	c := confOf(3, 1, 8, 1)
	x := calmTarget(t, c)
	lead := x.Cluster().Leader()
	other := (lead + 1) % 3
	for i, at := range []int{lead, lead, other, lead} {
		if n := x.Send(i, at, []past.Ask{write(5, 1, 7), read(5, 1), read(5, 1), local()}[i]); n != i {
			t.Fatal(n)
		}
	}
	want := []past.Call{
		{Conn: 0, A: write(5, 1, 7), Begin: 1},
		{Conn: 1, A: read(5, 1), Begin: 2, End: 3, Told: true, R: good(fill(0, 1))},
		{Conn: 2, A: read(5, 1), Begin: 4, End: 5, Told: true, R: standing()},
		{Conn: 3, A: local(), Begin: 6, End: 7, Told: true},
	}
	want[3].R.Data, _ = sense.Inquiry(false, 0, 0)
	asks := func() {
		t.Helper()
		got := x.Calls()
		if len(got) != len(want) {
			t.Fatal(len(got))
		}
		told := int64(0)
		for i, g := range got {
			w := want[i]
			if g.Conn != w.Conn || g.Begin != w.Begin || g.End != w.End || g.Told != w.Told || !same(g.R, w.R) || g.A.Lun != 0 || !bytes.Equal(g.A.Cdb, w.A.Cdb) || !bytes.Equal(g.A.Data, w.A.Data) {
				t.Fatalf("%d: %+v, want %+v", i, g, w)
			}
			if g.Told {
				told++
			}
		}
		if x.Told() != told {
			t.Fatal("Told", x.Told())
		}
	}
	asks()
	if n := x.Step(api.Event{Kind: api.EvRound}); n != 1 {
		t.Error("Step", n)
	}
	want[0].Told, want[0].End = true, 8
	asks()
	if n := x.Step(api.Event{Kind: api.EvRound}); n != 0 {
		t.Error("Step", n)
	}
	linear(t, c, x)
}

// P24.2: several that are told in one step.
func TestStep(t *testing.T) {
	x := calmTarget(t, confOf(3, 1, 8, 1))
	lead := x.Cluster().Leader()
	for n := range 5 {
		x.Send(n, lead, write(n, 1, 7))
	}
	if n := x.Step(api.Event{Kind: api.EvTick, Node: lead}); n != 0 {
		t.Error(n)
	}
	if n := x.Step(api.Event{Kind: api.EvRound}); n != 5 || x.Told() != 5 {
		t.Error(n, x.Told())
	}
	for i, c := range x.Calls() {
		if c.Begin != i+1 || c.End != i+6 {
			t.Error(c)
		}
	}
}

// P24.2: bytes of others are no step.
func TestNoBytes(t *testing.T) {
	x := calmTarget(t, confOf(1, 1, 8, 1))
	x.Send(1, 0, read(0, 1))
	for _, on := range []int{0, 1, 16} {
		for _, b := range [][]byte{nil, make([]byte, 48), bytes.Repeat([]byte{255}, 1000)} {
			if n := x.Step(api.Event{Kind: api.EvBytes, N: on, B: b}); n != 0 {
				t.Error(n)
			}
		}
	}
	if x.Cluster().Node(0).Stage(1) != conn.Full || x.Cluster().Node(0).Stage(0) != 0 {
		t.Error("they came")
	}
	for _, kind := range []int{-1 << 63, -1, 0, 11, 1<<63 - 1} {
		if n := x.Step(api.Event{Kind: kind, B: []byte{1}, L: []int{1}}); n != 0 {
			t.Error(kind, n)
		}
	}
	does(t, x, 1, read(0, 1), good(fill(0, 1)))
}

// P24.2: at most MaxScript calls.
func TestMostCalls(t *testing.T) {
	x := calmTarget(t, confOf(2, 1, 8, 1))
	for n := range api.MaxScript {
		if got := x.Send(n%16, n%2, local()); got != n {
			t.Fatal(got)
		}
	}
	for range 3 {
		if x.Send(1, 0, local()) != -1 {
			t.Error("one more")
		}
	}
	if _, ok := x.Do(1, local()); ok || len(x.Calls()) != api.MaxScript || x.Told() != api.MaxScript {
		t.Error("Do", len(x.Calls()), x.Told())
	}
	quiet(t, x)
	if x.Power(nil) != api.OK || x.Send(1, 0, local()) != -1 || len(x.Calls()) != api.MaxScript {
		t.Error("Power")
	}
}

// P24.2: a session for each connection and machine, as soon as it asks it; a new one where the machine has none any more.
func TestSessions(t *testing.T) {
	x := calmTarget(t, confOf(3, 1, 8, 1))
	stages := func(want [3][3]bool) {
		t.Helper()
		for on := range 3 {
			for at := range 3 {
				if is := x.Cluster().Node(at).Stage(on) == conn.Full; is != want[on][at] {
					t.Error(on, at, is)
				}
			}
		}
	}
	stages([3][3]bool{})
	x.Send(0, 1, local())
	stages([3][3]bool{0: {1: true}})
	x.Send(2, 0, local())
	x.Send(2, 1, local())
	x.Send(2, 1, local())
	stages([3][3]bool{0: {1: true}, 2: {0: true, 1: true}})
	x.Step(api.Event{Kind: api.EvCrash, N: 2})
	stages([3][3]bool{2: {0: true}})
	for range 3 {
		sends(t, x, 2, 1, of(9, ready()), 0, check(5, 0x25, 0))
	}
	stages([3][3]bool{2: {0: true, 1: true}})
	if e := x.Power(nil); e != api.OK {
		t.Fatal(e)
	}
	stages([3][3]bool{})
	for on := range 3 {
		for at := range 3 {
			sends(t, x, on, at, of(9, ready()), 0, check(5, 0x25, 0))
		}
	}
	quiet(t, x)
	// A session that somebody else has closed is begun anew.
	lead := x.Cluster().Leader()
	sends(t, x, 1, lead, write(1, 1, 1), 1, good(nil))
	x.Cluster().Do(api.Event{Kind: api.EvBytes, Node: lead, N: 1, B: bytes.Repeat([]byte{255}, 48)})
	if x.Cluster().Node(lead).Stage(1) != conn.Closed {
		t.Fatal(x.Cluster().Node(lead).Stage(1))
	}
	sends(t, x, 1, lead, write(1, 1, 2), 1, good(nil))
	sends(t, x, 1, lead, read(1, 1), 0, good(fill(2, 1)))
}

// P6, P8: more commands than a session takes at once: those that it does not take are not told, and it goes on with those behind.
func TestWindow(t *testing.T) {
	c := confOf(3, 1, 64, 1)
	for _, answered := range []bool{false, true} {
		x := calmTarget(t, c)
		does(t, x, 1, write(0, 32, 7), good(nil))
		does(t, x, 1, write(32, 32, 8), good(nil))
		lead := x.Cluster().Leader()
		cut(x, 1<<lead)
		rounds(x, 9) // its lease is over; nobody else leads yet
		first := len(x.Calls())
		for n := range 40 {
			if x.Send(2, lead, read(0, 64)) != first+n {
				t.Fatal(n)
			}
		}
		if x.Cluster().Node(lead).Waits() != 32 {
			t.Fatal(x.Cluster().Node(lead).Waits())
		}
		cut(x, 0)
		if !answered {
			x.Step(api.Event{Kind: api.EvCrash, N: 1 << lead})
		}
		rounds(x, 2)
		for n, c := range x.Calls()[first:] {
			if c.Told != (answered && n < 32) {
				t.Fatal(answered, n, c)
			}
			if c.Told && !same(c.R, good(append(fill(7, 32), fill(8, 32)...))) { // more bytes at once than a Reader takes
				t.Fatal(n, len(c.R.Data))
			}
		}
		quiet(t, x)
		for range 40 {
			sends(t, x, 2, x.Cluster().Leader(), read(63, 1), 0, good(fill(8, 1)))
		}
		does(t, x, 2, read(0, 1), good(fill(7, 1)))
	}
}

// P24.2: behind Close nothing is sent; what was sent is told still, and steps go on.
func TestClose(t *testing.T) {
	x := calmTarget(t, confOf(3, 1, 8, 1))
	lead := x.Cluster().Leader()
	n := x.Send(1, lead, write(1, 1, 1))
	if !x.Close() || x.Close() || x.Close() {
		t.Error("Close")
	}
	clock := x.Cluster().Clock(0)
	if _, ok := x.Do(1, local()); ok || x.Send(1, lead, local()) != -1 || len(x.Calls()) != 1 || x.Cluster().Clock(0) != clock {
		t.Error("it is sent")
	}
	if x.Step(api.Event{Kind: api.EvRound}) != 1 || !x.Calls()[n].Told || x.Told() != 1 {
		t.Error("it is not told")
	}
	if x.Power(nil) != api.OK || x.Restart() != api.OK {
		t.Error("Power")
	}
	quiet(t, x)
	if x.Send(1, 0, local()) != -1 || x.Close() {
		t.Error("it is open again")
	}
}

// Told may be asked by others while the target is used.
func TestToldByOthers(t *testing.T) {
	x := calmTarget(t, confOf(3, 1, 8, 1))
	var all sync.WaitGroup
	done := make(chan struct{})
	for range 3 {
		all.Add(1)
		go func() {
			defer all.Done()
			for last := int64(0); ; {
				select {
				case <-done:
					return
				default:
				}
				if n := x.Told(); n < last {
					t.Error("fewer", n, last)
				} else {
					last = n
				}
			}
		}()
	}
	for n := range 30 {
		does(t, x, 1, write(1, 1, byte(n)), good(nil))
	}
	x.Power(nil)
	does(t, x, 1, read(1, 1), good(fill(29, 1)))
	close(done)
	all.Wait()
	told := 0
	for _, c := range x.Calls() {
		if c.Told {
			told++
		}
	}
	if x.Told() != int64(told) || told < 31 {
		t.Error(x.Told(), told)
	}
}

// Rules 4 and 5: nothing that is handed in is changed or kept, and answers are new memory.
func TestMemory(t *testing.T) {
	x := calmTarget(t, confOf(1, 1, 8, 1))
	a := write(1, 1, 7)
	n := x.Send(1, 0, a)
	if !bytes.Equal(a.Data, fill(7, 1)) || !bytes.Equal(a.Cdb, write(1, 1, 0).Cdb) {
		t.Error("changed")
	}
	clear(a.Data)
	clear(a.Cdb)
	m := x.Send(1, 0, read(1, 1))
	for range 2 {
		l := x.Calls()
		if !bytes.Equal(l[n].A.Data, fill(7, 1)) || !bytes.Equal(l[n].A.Cdb, write(1, 1, 0).Cdb) || !bytes.Equal(l[m].R.Data, fill(7, 1)) {
			t.Fatal("kept")
		}
		for _, b := range [][]byte{l[n].A.Data, l[n].A.Cdb, l[m].R.Data} {
			clear(b)
			_ = append(b, 1)
		}
		l[n].Told = false
	}
	r, _ := x.Do(1, read(1, 1))
	clear(r.Data)
	last := x.Calls()[len(x.Calls())-1]
	if !bytes.Equal(last.R.Data, fill(7, 1)) {
		t.Error("shared")
	}
	kept := [][]int{{1, 2}, {3}}
	x.Power(kept)
	if !slices.Equal(kept[0], []int{1, 2}) || !slices.Equal(kept[1], []int{3}) {
		t.Error("changed")
	}
}
