package cluster_test

import (
	"bytes"
	"math"
	"testing"

	"caisson/api"
	"caisson/cluster"
	"caisson/disk"
	"caisson/node"
	"caisson/raft"
)

var edges = []int{math.MinInt, -1 << 40, -65, -2, -1, 0, 1, 2, 3, 4, 5, 6, 16, 63, 64, 65, 255, 1 << 40, math.MaxInt}

// P22.1: confs that can and can not be.
func TestConfs(t *testing.T) {
	in := func(n, most int) bool { return n >= 1 && n <= most }
	for _, nodes := range edges {
		for _, units := range edges {
			for _, count := range []int{-1, 0, 1, 64, 65, math.MaxInt} {
				for _, rho := range []int{math.MinInt, 0, 1, 4, 5, 1000} {
					c := confOf(nodes, units, count, rho)
					can := in(nodes, 5) && in(units, 3) && in(count, 64) && in(rho, 4)
					x, e := cluster.New(c)
					if can != (e == api.OK) || can != (x != nil) || !can && e != api.ErrArg {
						t.Fatal("New", c, e)
					}
					if can {
						continue
					}
					for _, l := range [][][]byte{nil, {}, {nil}, make([][]byte, 3), {make([]byte, 256)}} {
						if x, e := cluster.Load(c, l); e != api.ErrArg || x != nil {
							t.Fatal("Load", c, e)
						}
					}
				}
			}
		}
	}
}

// P22.1: a new cluster is on empty disks of just as many sectors as are needed; nothing is on its way, and all clocks are 0.
func TestNewIsEmpty(t *testing.T) {
	for nodes := 1; nodes <= 5; nodes++ {
		c := confOf(nodes, 1+nodes%3, 8, 1)
		x, _ := cluster.New(c)
		if x.Nodes() != nodes || x.Flight() != 0 || x.Leader() != -1 || x.Calm() || len(x.Images()) != nodes {
			t.Error(x.Nodes(), x.Flight(), x.Leader(), x.Calm())
		}
		for i := range nodes {
			if !x.Up(i) || x.Node(i) == nil || x.Clock(i) != 0 || x.Disk(i).Size() != node.Need(c) {
				t.Error(i, x.Up(i), x.Clock(i))
			}
			s := x.Node(i).State()
			if s.Units() != c.Units || s.Blocks() != 8 || x.Node(i).Applied() != 0 || x.Node(i).Info().Members != 1<<nodes-1 {
				t.Error(i, x.Node(i).Info())
			}
		}
		for _, i := range []int{math.MinInt, -1, nodes, nodes + 1, 64, math.MaxInt} {
			if x.Up(i) || x.Node(i) != nil || x.Disk(i) != nil || x.Clock(i) != 0 {
				t.Error("a machine that there is not:", i)
			}
		}
	}
}

// P22.1: nil, and a Cluster that nobody made.
func TestNil(t *testing.T) {
	for _, x := range []*cluster.Cluster{nil, {}} {
		for kind := -1; kind < 12; kind++ {
			if l := x.Do(api.Event{Kind: kind, N: -1, L: []int{1}, B: []byte("a")}); len(l) != 0 {
				t.Error(kind, l)
			}
		}
		for _, i := range edges {
			if x.Up(i) || x.Disk(i) != nil || x.Node(i) != nil || x.Clock(i) != 0 {
				t.Error(i)
			}
		}
		if x.Flight() != 0 || x.Leader() != -1 || x.Calm() || len(x.Images()) != 0 || x.Nodes() != 0 {
			t.Error("something of nil")
		}
	}
}

// P22.1: images that are too few, too many, or not of just as many sectors as are needed.
func TestLoadRefuses(t *testing.T) {
	c := confOf(3, 1, 8, 1)
	size := 256 * node.Need(c)
	of := func(l ...int) [][]byte {
		var out [][]byte
		for _, n := range l {
			out = append(out, make([]byte, n))
		}
		return out
	}
	for _, l := range [][][]byte{nil, of(size), of(size, size), of(size, size, size, size), of(size, size, size-256), of(size+256, size, size), of(size, size+1, size), of(size, 0, size), of(0, 0, 0), {nil, nil, nil}} {
		if x, e := cluster.Load(c, l); e != api.ErrArg || x != nil {
			t.Error(len(l), e)
		}
	}
	if x, e := cluster.Load(c, of(size, size, size)); e != api.OK || x == nil {
		t.Error(e)
	}
}

// P22.1: a machine that can not start does not work, and the others go on (P22.5 of one of three that is dead).
func TestLoadOfJunk(t *testing.T) {
	c := confOf(3, 1, 8, 1)
	for dead := range 3 {
		x := calmLab(t, c)
		x.good(1, write(5, 7))
		x.rounds(1)
		l := x.c.Images()
		l[dead] = bytes.Repeat([]byte{0xff}, len(l[dead]))
		y, e := cluster.Load(c, l)
		if e != api.OK || y.Up(dead) || y.Node(dead) != nil || !bytes.Equal(y.Disk(dead).Image(), l[dead]) {
			t.Fatal(dead, e)
		}
		x.c, x.sessions = y, map[[2]int]*session{}
		x.rounds(100)
		x.calm()
		if x.lead() == dead || x.c.Clock(dead) != 100 {
			t.Error(x.lead(), x.c.Clock(dead))
		}
		if b := x.good(2, read(5, 1)); !bytes.Equal(b, fill(7, 1)) {
			t.Errorf("% x", b)
		}
		if got := x.send(3, dead, read(5, 1)); got.told {
			t.Error("it does not work")
		}
		x.crash(1 << dead) // junk stays junk
		if x.c.Up(dead) {
			t.Error("it works")
		}
	}
}

// P22.1, P22.5: a cluster that is loaded has what was safe, nothing on its way, and clocks of 0.
func TestLoad(t *testing.T) {
	c := confOf(3, 2, 8, 2)
	x := calmLab(t, c)
	for n := range 40 {
		x.good(1, write(n%8, byte(n+1)))
	}
	x.rounds(2)
	x.calm()
	was := x.c.Node(0).State().Bytes()
	x.ticks(0, 1)
	if x.c.Flight() == 0 && x.c.Leader() == 0 {
		t.Fatal("nothing is on its way")
	}
	y, e := cluster.Load(c, x.c.Images())
	if e != api.OK || y.Flight() != 0 || y.Leader() != -1 || y.Calm() {
		t.Fatal(e)
	}
	for i := range 3 {
		if y.Clock(i) != 0 || !y.Up(i) || y.Node(i).Stage(1) != 0 {
			t.Error(i, y.Clock(i))
		}
	}
	x.c, x.sessions = y, map[[2]int]*session{}
	x.rounds(100)
	x.calm()
	for i := range 3 {
		if !bytes.Equal(y.Node(i).State().Bytes(), was) {
			t.Error("another state", i)
		}
	}
}

// P22.5: behind 100 rounds from New on, or from Load of the images of such a cluster, it is calm, whatever the conf.
func TestCalmBehindRounds(t *testing.T) {
	for nodes := 1; nodes <= 5; nodes++ {
		for rho := 1; rho <= 4; rho++ {
			x := newLab(t, confOf(nodes, 1+rho%3, 1+nodes*rho, rho))
			for n := range 4 {
				x.rounds(100)
				x.calm()
				for i := range nodes {
					if x.c.Clock(i) != 100 {
						t.Fatal(nodes, rho, x.c.Clock(i))
					}
				}
				if x.c.Flight() != 0 || x.c.Node(x.lead()).Info().Term != int64(n+1) {
					t.Fatal(nodes, rho, x.c.Flight(), x.c.Node(x.lead()).Info())
				}
				x.c, _ = cluster.Load(x.conf, x.c.Images())
			}
		}
	}
}

// The first example: all machines start again, and nobody leads.
func TestFirstExample(t *testing.T) {
	x := newLab(t, confOf(3, 1, 8, 1))
	x.rounds(100)
	x.calm()
	x.crash(7)
	for i := range 3 {
		if !x.c.Up(i) {
			t.Error(i)
		}
	}
	if x.c.Leader() != -1 || x.c.Calm() {
		t.Error(x.c.Leader())
	}
	x.rounds(100)
	x.calm()
}

// P22.2: Disk is a copy, Node the machine itself, Images what is safe.
func TestPartsOfIt(t *testing.T) {
	x := calmLab(t, confOf(1, 1, 8, 1))
	d := x.c.Disk(0)
	was := x.c.Images()[0]
	if !bytes.Equal(d.Image(), was) {
		t.Error("another image")
	}
	d.Write(0, bytes.Repeat([]byte{9}, 5000))
	d.Flush()
	d.Fail()
	clear(x.c.Images()[0])
	if !bytes.Equal(x.c.Images()[0], was) || !bytes.Equal(x.c.Disk(0).Now(), was) {
		t.Error("it is no copy")
	}
	x.good(1, write(1, 5))
	if x.c.Node(0) != x.c.Node(0) || x.c.Node(0).Stage(1) != 3 {
		t.Error("another machine")
	}
	x.c.Node(0).Bytes(1, bytes.Repeat([]byte{0xff}, 48))
	if x.c.Node(0).Stage(1) != 4 {
		t.Error("it is a copy")
	}
	x.fail(0)
	x.send(2, 0, write(2, 6)) // it is not flushed
	if x.c.Up(0) || bytes.Equal(x.c.Disk(0).Now(), x.c.Disk(0).Image()) || !bytes.Equal(x.c.Images()[0], x.c.Disk(0).Image()) {
		t.Error("what was not flushed")
	}
}

// P22.2: who leads is the one with the greatest term of those that work and lead.
func TestLeader(t *testing.T) {
	x := calmLab(t, confOf(3, 1, 8, 1))
	first, second := -1, x.lead()
	for range 2 { // the one that is cut off has a lesser number, and then a greater one
		first = second
		x.cut(0)
		x.rounds(3)
		x.cut(1 << first)
		x.rounds(40)
		second = x.lead()
		if second == first || x.c.Node(first).Info().Role != api.Leader || x.c.Node(second).Info().Term <= x.c.Node(first).Info().Term {
			t.Fatal(first, second)
		}
	}
	if second > first {
		t.Fatal(first, second)
	}
	x.fail(second)
	x.send(1, second, write(1, 1))
	if x.c.Up(second) || x.c.Leader() != first {
		t.Fatal(x.c.Leader())
	}
	x.crash(1 << first)
	if x.c.Leader() != -1 {
		t.Fatal(x.c.Leader())
	}
}

// P22.2: it is calm, if a machine leads, nothing waits, and all have done what it has agreed on and have nothing above that.
func TestCalm(t *testing.T) {
	x := calmLab(t, confOf(3, 1, 8, 1))
	n := x.lead()
	x.send(1, n, write(1, 1)) // it waits
	if x.c.Calm() || x.c.Node(n).Waits() != 1 {
		t.Fatal("it waits")
	}
	x.arrive() // the others have it, and do not know that it is agreed on
	if x.c.Node(n).Waits() != 0 || x.c.Calm() {
		t.Fatal("they have not applied it")
	}
	x.rounds(1)
	x.calm()

	x.cut(7 ^ 1<<n)
	x.rounds(1)
	x.calm()
	x.ticks(n, 1)
	x.ticks((n+1)%3, 1)
	x.ticks((n+2)%3, 1)
	for range 7 { // the lease is over, and a read waits
		x.rounds(1)
	}
	x.send(1, n, read(1, 1))
	if x.c.Node(n).Waits() != 1 || x.c.Calm() || x.c.Node(n).Top() != x.c.Node(n).Applied() {
		t.Fatal("a read waits")
	}
	x.cut(0)
	x.rounds(1)
	x.calm()

	x.cut(7 ^ 1<<n)
	x.send(1, n, write(1, 2))
	x.crash(1 << n) // its log has what nobody knows of
	x.rounds(40)
	if n == x.lead() || x.c.Calm() || x.c.Node(n).Top() < x.c.Node(x.lead()).Info().Commit {
		t.Fatal("one of them has something else", x.c.Calm())
	}
	x.cut(0)
	x.rounds(30)
	x.calm()
}

// Rule 4 and 5: what is handed in and out is not shared.
func TestSharesNothing(t *testing.T) {
	x := calmLab(t, confOf(1, 1, 8, 1))
	y, _ := cluster.Load(x.conf, x.c.Images())
	l := x.c.Images()
	z, _ := cluster.Load(x.conf, l)
	clear(l[0])
	if !bytes.Equal(y.Images()[0], z.Images()[0]) || z.Node(0).Info() == (raft.Info{}) {
		t.Error("Load keeps its lists")
	}
	d, _ := disk.Load(z.Images()[0])
	if _, e := node.New(0, x.conf, d); e != api.OK {
		t.Error(e)
	}
}
