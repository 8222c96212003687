package target_test

import (
	"bytes"
	"slices"
	"testing"

	"caisson/api"
	"caisson/conn"
	"caisson/node"
	"caisson/sense"
	"caisson/target"
)

// The chapter's example, with each number of machines, and other ones behind it.
func TestExample(t *testing.T) {
	for nodes := 1; nodes <= 5; nodes++ {
		for _, kept := range [][][]int{nil, {}, {nil, nil, nil, nil, nil}, slices.Repeat([][]int{{-1, -1, -1, -1}}, 9), {{1}, {2, 3}, {0, -1}}} {
			c := confOf(nodes, 1, 8, 1)
			x := newTarget(t, c)
			does(t, x, 1, write(5, 1, 7), good(nil))
			before := x.Calls()
			if e := x.Power(kept); e != api.OK {
				t.Fatal(e)
			}
			if len(x.Calls()) != len(before) || x.Cluster().Flight() != 0 || x.Cluster().Clock(0) != 0 || x.Cluster().Leader() != -1 {
				t.Fatal("Power")
			}
			does(t, x, 2, read(5, 1), good(fill(7, 1)))
			does(t, x, 2, read(4, 1), good(fill(0, 1)))
			linear(t, c, x)
			quiet(t, x)
			alike(t, x)
		}
	}
}

// P24.3: one call for each round, from the machine 0 on and round, until one is answered by who does it.
func TestDoOrder(t *testing.T) {
	for nodes := 1; nodes <= 5; nodes++ {
		for lead := range nodes {
			x := leadBy(t, confOf(nodes, 1, 8, 1), lead)
			clock := x.Cluster().Clock(0)
			does(t, x, 3, read(5, 1), good(fill(0, 1)))
			l := x.Calls()
			if len(l) != lead+1 || x.Cluster().Clock(0) != clock+int64(lead)+1 {
				t.Fatal(nodes, lead, len(l))
			}
			for i, c := range l {
				if c.Conn != 3 || !c.Told || same(c.R, standing()) == (i == lead) {
					t.Fatal(nodes, lead, i, c)
				}
			}
			for at := range nodes {
				if is := x.Cluster().Node(at).Stage(3) == conn.Full; is != (at <= lead) {
					t.Fatal(nodes, lead, at, is)
				}
			}
			b, _ := sense.Inquiry(false, 0, 0)
			does(t, x, 3, local(), good(b)) // the machine 0 is asked first, each time
			if len(x.Calls()) != lead+2 || x.Cluster().Clock(0) != clock+int64(lead)+2 {
				t.Fatal(nodes, lead, len(x.Calls()))
			}
			does(t, x, 3, write(5, 1, 1), good(nil))
			if len(x.Calls()) != 2*lead+3 || x.Cluster().Clock(0) != clock+2*int64(lead)+3 {
				t.Fatal(nodes, lead, len(x.Calls()))
			}
		}
	}
}

// leadBy is a target on a calm cluster that is led by that machine, as what the others ask is lost till then.
func leadBy(t *testing.T, c node.Conf, lead int) *target.Target {
	t.Helper()
	x := newTarget(t, c)
	for range 100 {
		for i := range c.Nodes {
			x.Step(api.Event{Kind: api.EvTick, Node: i})
			kind := api.EvDrop
			if i == lead {
				kind = api.EvDeliver
			}
			for x.Cluster().Flight() > 0 {
				x.Step(api.Event{Kind: kind})
			}
		}
		if x.Cluster().Leader() == lead {
			break
		}
	}
	quiet(t, x)
	if x.Cluster().Leader() != lead {
		t.Fatal("another one leads:", x.Cluster().Leader())
	}
	return x
}

// P24.3: machines that do not work are passed by; where none does, nobody is asked, but rounds go by.
func TestDoWithoutMachines(t *testing.T) {
	for lead := range 3 {
		x := leadBy(t, confOf(3, 1, 8, 1), lead)
		dead := (lead + 1) % 3
		x.Step(api.Event{Kind: api.EvFail, Node: dead})
		sends(t, x, 1, lead, write(1, 1, 1), 1, good(nil))
		if x.Cluster().Up(dead) {
			t.Fatal("it works")
		}
		first := len(x.Calls())
		does(t, x, 2, read(1, 1), good(fill(1, 1)))
		want := lead + 1
		if dead < lead {
			want = lead
		}
		if got := len(x.Calls()) - first; got != want {
			t.Error(lead, got, want)
		}
	}
	x := calmTarget(t, confOf(1, 1, 8, 1))
	x.Step(api.Event{Kind: api.EvFail})
	x.Send(1, 0, write(1, 1, 1))
	clock := x.Cluster().Clock(0)
	if r, ok := x.Do(1, read(1, 1)); ok || !same(r, api.Reply{}) || len(x.Calls()) != 1 || x.Cluster().Clock(0) != clock+int64(x.Bound()) {
		t.Error(r, ok, len(x.Calls()), x.Cluster().Clock(0)-clock)
	}
	if n, ok := x.Quiet(); ok || n != x.Bound() || x.Cluster().Clock(0) != clock+2*int64(x.Bound()) {
		t.Error("Quiet", n, ok)
	}
	if x.Restart() != api.OK || !x.Cluster().Up(0) {
		t.Error("Restart")
	}
	does(t, x, 2, write(1, 1, 2), good(nil))
	does(t, x, 2, read(1, 1), good(fill(2, 1)))
}

// P24.3: a command that can not be sent ends it at once.
func TestDoRefused(t *testing.T) {
	x := calmTarget(t, confOf(3, 1, 8, 1))
	clock := x.Cluster().Clock(0)
	wrong := local()
	wrong.Cdb = wrong.Cdb[:15]
	for _, on := range []int{-1, 16} {
		if r, ok := x.Do(on, local()); ok || !same(r, api.Reply{}) {
			t.Error(on, r, ok)
		}
	}
	long := local()
	long.Data = make([]byte, 2049)
	if _, ok := x.Do(1, wrong); ok {
		t.Error("15 bytes")
	}
	if _, ok := x.Do(1, long); ok {
		t.Error("2049 data")
	}
	if _, ok := x.Do(1, of(256, local())); ok {
		t.Error("unit 256")
	}
	if len(x.Calls()) != 0 || x.Cluster().Clock(0) != clock {
		t.Error(len(x.Calls()), x.Cluster().Clock(0)-clock)
	}
}

// P24.3: as long as nobody can answer it goes on asking, Bound rounds; calls of these may be told later.
func TestDoInVain(t *testing.T) {
	x := leadBy(t, confOf(3, 1, 8, 1), 1)
	cut(x, 2) // the others choose another one
	does(t, x, 1, write(1, 1, 1), good(nil))
	if x.Cluster().Leader() == 1 {
		t.Fatal("it leads")
	}
	x.Restart()
	quiet(t, x)
	x.Step(api.Event{Kind: api.EvFail, Node: 0})
	x.Step(api.Event{Kind: api.EvFail, Node: 1})
	x.Send(1, 0, write(2, 1, 1))
	x.Send(1, 1, write(2, 1, 1))
	rounds(x, 1)
	first, clock := len(x.Calls()), x.Cluster().Clock(2)
	if _, ok := x.Do(1, read(1, 1)); ok {
		t.Fatal("it is answered")
	}
	if got := len(x.Calls()) - first; got != x.Bound() || x.Cluster().Clock(2) != clock+int64(x.Bound()) {
		t.Error(got, x.Cluster().Clock(2)-clock)
	}
	x.Restart()
	does(t, x, 1, read(1, 1), good(fill(1, 1)))
}

// P24.3: an answer to one of these calls counts, and not one that an earlier call is told meanwhile.
func TestDoItsOwn(t *testing.T) {
	x := leadBy(t, confOf(3, 1, 8, 1), 0)
	rounds(x, 1)
	cut(x, 1)
	rounds(x, 9) // its lease is over, and nobody else leads
	n := x.Send(1, 0, write(1, 1, 5))
	if n != 0 || x.Calls()[0].Told {
		t.Fatal("it is told")
	}
	cut(x, 0)
	r, ok := x.Do(1, read(1, 1))
	l := x.Calls()
	if !ok || !same(r, good(fill(5, 1))) || len(l) != 2 || l[0].End > l[1].End {
		t.Error(r, ok, l)
	}
}

// P24.4: Bound is from 100 to 10000, and hangs on the conf alone.
func TestBound(t *testing.T) {
	for nodes := 1; nodes <= 5; nodes++ {
		for rho := 1; rho <= 4; rho++ {
			x := newTarget(t, confOf(nodes, 1, 8, rho))
			n := x.Bound()
			if n < 100 || n > 10000 {
				t.Fatal(n)
			}
			does(t, x, 1, write(1, 1, 1), good(nil))
			x.Power(nil)
			x.Restart()
			x.Close()
			if x.Bound() != n || newTarget(t, confOf(nodes, 1, 8, rho)).Bound() != n {
				t.Error("another one")
			}
		}
	}
}

// P24.4: Quiet lets rounds go by until all is calm, and tells how many.
func TestQuiet(t *testing.T) {
	x := newTarget(t, confOf(3, 1, 8, 1))
	n, ok := x.Quiet()
	if !ok || n == 0 || int64(n) != x.Cluster().Clock(0) || !x.Cluster().Calm() {
		t.Fatal(n, ok, x.Cluster().Clock(0))
	}
	y := newTarget(t, confOf(3, 1, 8, 1))
	rounds(y, n-1)
	if y.Cluster().Calm() {
		t.Error("it was calm ahead of that")
	}
	if n, ok := y.Quiet(); n != 1 || !ok {
		t.Error(n, ok)
	}
	if n, ok := y.Quiet(); n != 0 || !ok {
		t.Error(n, ok)
	}
	y.Send(1, y.Cluster().Leader(), write(1, 1, 1))
	if n, ok := y.Quiet(); n < 1 || !ok || y.Told() != 1 { // what is told in its rounds is heard
		t.Error(n, ok, y.Told())
	}
	cut(x, 1<<x.Cluster().Leader())
	x.Send(1, x.Cluster().Leader(), write(1, 1, 1))
	if n, ok := x.Quiet(); ok || n != x.Bound() {
		t.Error(n, ok)
	}
}

// P24.4: Restart lets nobody be cut off, keeps all that was written, and what is on its way.
func TestRestart(t *testing.T) {
	x := leadBy(t, confOf(3, 1, 8, 1), 0)
	cut(x, 1)
	x.Send(1, 0, write(1, 1, 9))
	x.Step(api.Event{Kind: api.EvFail, Node: 1})
	flight := x.Cluster().Flight()
	if flight == 0 {
		t.Fatal("nothing is on its way")
	}
	if e := x.Restart(); e != api.OK || x.Cluster().Leader() != -1 || x.Cluster().Flight() != flight {
		t.Fatal(e, x.Cluster().Leader(), x.Cluster().Flight())
	}
	for i := range 3 {
		if !x.Cluster().Up(i) || x.Cluster().Disk(i).Pending() != 0 || x.Cluster().Node(i).Stage(1) != 0 {
			t.Error(i)
		}
	}
	for n := range 30 { // no flush fails any more
		does(t, x, 1, write(2, 1, byte(n)), good(nil))
	}
	if x.Calls()[0].Told {
		t.Error("its session is gone")
	}
	quiet(t, x)
	alike(t, x)
}

// P24.4: groups that a dead disk has are kept by Restart, all of them.
func TestRestartKeepsAll(t *testing.T) {
	x := calmTarget(t, confOf(1, 1, 8, 1))
	does(t, x, 1, write(1, 1, 1), good(nil))
	x.Step(api.Event{Kind: api.EvFail})
	n := x.Send(1, 0, write(1, 1, 2)) // the log has it, but it is not safe
	if x.Cluster().Up(0) || x.Cluster().Disk(0).Pending() == 0 {
		t.Fatal("its flush went well")
	}
	x.Restart()
	does(t, x, 1, read(1, 1), good(fill(2, 1)))
	if x.Calls()[n].Told {
		t.Error("it is told")
	}
	// And by Power as it says, disk by disk.
	for _, kept := range [][][]int{nil, {nil}, {{0}}, {{-1, -1, -1}}} {
		x := calmTarget(t, confOf(1, 1, 8, 1))
		does(t, x, 1, write(1, 1, 1), good(nil))
		x.Step(api.Event{Kind: api.EvFail})
		x.Send(1, 0, write(1, 1, 2))
		if e := x.Power(kept); e != api.OK || x.Cluster().Disk(0).Pending() != 0 {
			t.Fatal(e)
		}
		want := byte(1)
		if len(kept) > 0 && len(kept[0]) == 3 {
			want = 2
		}
		does(t, x, 1, read(1, 1), good(fill(want, 1)))
	}
}

// P24.4: Restart keeps all groups of a disk, however many are not safe.
func TestRestartKeepsManyGroups(t *testing.T) {
	c := confOf(3, 1, 64, 1)
	x := leadBy(t, c, 0)
	cut(x, 2)
	for n := range 5 {
		sends(t, x, 1, 0, write(n, 1, byte(n+1)), 1, good(nil))
	}
	cut(x, 0)
	x.Step(api.Event{Kind: api.EvFail, Node: 1})
	rounds(x, 1)
	d := x.Cluster().Disk(1)
	if x.Cluster().Up(1) || d.Pending() < 2 {
		t.Fatal("its flush went well", d.Pending())
	}
	d.Crash(slices.Repeat([]int{-1}, d.Pending()))
	if _, e := node.New(1, c, d); e != api.OK {
		t.Fatal(e)
	}
	x.Restart()
	if !bytes.Equal(x.Cluster().Disk(1).Image(), d.Image()) {
		t.Error("something is lost")
	}
}

// P24.4: what was not told ahead of Power is never told, and the calls stay.
func TestPower(t *testing.T) {
	c := confOf(3, 1, 8, 1)
	x := leadBy(t, c, 0)
	x.Send(1, 0, write(1, 1, 1))
	x.Send(2, 0, read(1, 1))
	cut(x, 1)
	old := x.Cluster()
	if e := x.Power(slices.Repeat([][]int{slices.Repeat([]int{-1}, 20)}, 3)); e != api.OK || x.Cluster() == old {
		t.Fatal(e)
	}
	if x.Cluster().Flight() != 0 || x.Cluster().Clock(1) != 0 || x.Told() != 1 {
		t.Error("something is left")
	}
	for n := range 3 { // the new session's commands are not taken for those
		does(t, x, 1, write(2, 1, byte(n)), good(nil))
		does(t, x, 2, read(2, 1), good(fill(byte(n), 1)))
	}
	quiet(t, x)
	l := x.Calls()
	if l[0].Told || l[0].End != 0 || l[0].Begin != 1 || !l[1].Told || l[1].Begin != 2 || l[1].End != 3 {
		t.Error(l[:2])
	}
	alike(t, x)
}
