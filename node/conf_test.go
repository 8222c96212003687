package node_test

import (
	"bytes"
	"math"
	"testing"

	"caisson/api"
	"caisson/disk"
	"caisson/node"
	"caisson/raft"
)

var edges = []int{math.MinInt, math.MinInt + 1, -1 << 32, -65, -2, -1, 0, 1, 2, 3, 4, 5, 6, 7, 63, 64, 65, 255, 256, 257, 1 << 31, 1 << 32, math.MaxInt - 1, math.MaxInt}

// eachConf is each conf whose fields are at their edges, and whether it can be.
func eachConf(f func(c node.Conf, can bool)) {
	in := func(n, most int) bool { return n >= 1 && n <= most }
	for _, nodes := range edges {
		for _, units := range edges {
			for _, blocks := range edges {
				for _, rho := range edges {
					f(confOf(nodes, units, blocks, rho), in(nodes, 5) && in(units, 3) && in(blocks, 64) && in(rho, 4))
				}
			}
		}
	}
}

func TestNames(t *testing.T) {
	if node.Name != "iqn.caisson" || node.MostBlocks != 64 {
		t.Error(node.Name, node.MostBlocks)
	}
}

// P21.1, P21.2: confs that can and can not be.
func TestConfs(t *testing.T) {
	small, _ := disk.New(1)
	inquiry := append([]byte{0x12, 0, 0, 0, 36}, make([]byte, 11)...)
	eachConf(func(c node.Conf, can bool) {
		n := node.Need(c)
		if can && (n < 1 || n > 2000) || !can && n != 0 {
			t.Fatal("Need", c, n)
		}
		if _, ok := node.Local(c, 0, 0, 0, inquiry); ok != can {
			t.Fatal("Local", c, ok)
		}
		if _, ok, _ := node.Cmd(c, 0, make([]byte, 16), nil); ok != can {
			t.Fatal("Cmd", c, ok)
		}
		if x, e := node.New(0, c, small); e != api.ErrArg || x != nil {
			t.Fatal("New", c, e)
		}
	})
}

// P21.1: machines that can and can not be, disks that are too small, just great enough, and greater; nil first.
func TestNewRefuses(t *testing.T) {
	for nodes := 1; nodes <= api.MaxNodes; nodes++ {
		for units := 1; units <= api.MaxLuns; units++ {
			c := confOf(nodes, units, 1+(nodes*units*7)%64, 1+nodes%4)
			for _, size := range []int{1, node.Need(c) - 1, node.Need(c), node.Need(c) + 1, 2000, api.MaxSectors} {
				for _, me := range []int{math.MinInt, -1, 0, nodes - 1, nodes, math.MaxInt} {
					d, _ := disk.New(size)
					x, e := node.New(me, c, d)
					if can := me >= 0 && me < nodes && size >= node.Need(c); can != (e == api.OK) || can != (x != nil) || !can && e != api.ErrArg {
						t.Fatal(c, size, me, e)
					}
				}
			}
			for _, me := range edges {
				if x, e := node.New(me, c, nil); e != api.ErrNil || x != nil {
					t.Fatal("nil", e)
				}
			}
		}
	}
	if x, e := node.New(0, node.Conf{}, nil); e != api.ErrNil || x != nil {
		t.Error("nil", e)
	}
}

// P21.1: a machine is as it is at first.
func TestNewIsEmpty(t *testing.T) {
	k := newDesk(t, 2, confOf(3, 2, 9, 1))
	i := k.x.Info()
	if i != (raft.Info{Voted: -1, Leader: -1, Members: 7}) {
		t.Error(i)
	}
	s := k.x.State()
	if s.Units() != 2 || s.Blocks() != 9 || s.Image(0).Used()+s.Image(1).Used() != 0 {
		t.Error(s.Units(), s.Blocks())
	}
	if k.x.Applied() != 0 || k.x.Top() != 0 || k.x.Waits() != 0 || k.x.Dead() {
		t.Error(k.x.Applied(), k.x.Top(), k.x.Waits(), k.x.Dead())
	}
	for _, n := range edges {
		if k.x.Stage(n) != 0 {
			t.Error(n)
		}
	}
}

// P21.1: nil, and a Node that nobody made.
func TestNil(t *testing.T) {
	for _, x := range []*node.Node{nil, {}} {
		for _, n := range edges {
			if len(x.Handle(n, []byte("a"))) != 0 || len(x.Bytes(n, []byte("a"))) != 0 || x.Stage(n) != 0 {
				t.Error("something of nil")
			}
			x.Draw(n)
		}
		if len(x.Tick()) != 0 || x.Dead() || x.Info() != (raft.Info{}) || x.State() != nil || x.Applied() != 0 || x.Top() != 0 || x.Waits() != 0 {
			t.Error("something of nil")
		}
	}
}

// P21.1: State is a copy.
func TestStateIsACopy(t *testing.T) {
	k := alone(t, confOf(1, 1, 8, 1))
	k.good(1, write(3, 1, 7))
	was := k.x.State().Bytes()
	s := k.x.State()
	s.Image(0).Write(3, fill(9, 1))
	m := &model{conf: k.conf, s: s, seq: 1 << 50}
	m.do(1, write(3, 1, 9))
	if bytes.Equal(s.Bytes(), was) || !bytes.Equal(k.x.State().Bytes(), was) {
		t.Error("it is no copy")
	}
	if b := k.good(2, read(3, 1)); !bytes.Equal(b, fill(7, 1)) {
		t.Errorf("% x", b)
	}
}

// P21.1 (P10): a draw is the next timeout of the one that is taken behind it.
func TestDraw(t *testing.T) {
	for _, n := range edges {
		k := newDesk(t, 0, confOf(3, 1, 8, 1))
		k.x.Draw(n)
		k.ticks(9)
		if l := k.sent(); len(l) != 0 {
			t.Fatal("too early", l)
		}
		k.ticks(1) // the timeout of its beginning is without a draw
		if l := k.sent(); len(l) != 2 || l[0].Kind != api.Ask {
			t.Fatal(l)
		}
		next := 10 + (n%10+10)%10
		k.ticks(next - 1)
		if l := k.sent(); len(l) != 0 {
			t.Fatal("too early", n, l)
		}
		k.ticks(1)
		if l := k.sent(); len(l) != 2 {
			t.Fatal(n, l)
		}
	}
}
