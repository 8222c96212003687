package cluster_test

import (
	"bytes"
	"math"
	"math/rand"
	"reflect"
	"testing"

	"caisson/api"
	"caisson/cluster"
	"caisson/disk"
	"caisson/node"
	"caisson/world"
)

// plain does a script's steps as the table of the chapter says, one by one.
type plain struct {
	conf  node.Conf
	disks []*disk.Disk
	nodes []*node.Node
	w     *world.World
	told  []cluster.Told
}

func newPlain(c node.Conf) *plain {
	p := &plain{conf: c}
	p.w, _ = world.New(c.Nodes, c.Rho)
	for i := range c.Nodes {
		d, _ := disk.New(node.Need(c))
		x, _ := node.New(i, c, d)
		p.disks, p.nodes = append(p.disks, d), append(p.nodes, x)
	}
	return p
}

func (p *plain) works(i int) bool {
	return i >= 0 && i < len(p.nodes) && p.nodes[i] != nil && !p.nodes[i].Dead()
}

func (p *plain) out(i int, l []node.Out) {
	for _, o := range l {
		if o.Conn {
			p.told = append(p.told, cluster.Told{Node: i, Conn: o.To, Data: o.Data})
		} else {
			p.w.Send(i, o.To, o.Data)
		}
	}
}

func (p *plain) arrives(k int) {
	if l, e := p.w.Take(k); e == api.OK && p.works(l.To) {
		p.out(l.To, p.nodes[l.To].Handle(l.From, l.Data))
	}
}

func (p *plain) ticks(i int) {
	if p.w.Tick(i) == api.OK && p.works(i) {
		p.out(i, p.nodes[i].Tick())
	}
}

func (p *plain) do(e api.Event) []cluster.Told {
	p.told = nil
	k := -1
	if n := p.w.Len(); n > 0 {
		if k = e.N % n; k < 0 {
			k += n
		}
	}
	there := e.Node >= 0 && e.Node < len(p.nodes)
	switch e.Kind {
	case 1:
		if p.works(e.Node) {
			p.out(e.Node, p.nodes[e.Node].Bytes(e.N, e.B))
		}
	case 2:
		p.arrives(k)
	case 3:
		p.w.Drop(k)
	case 4:
		p.w.Double(k)
	case 5:
		p.ticks(e.Node)
	case 6:
		if p.works(e.Node) {
			p.nodes[e.Node].Draw(e.N)
		}
	case 7:
		p.w.Cut(e.N)
	case 8:
		if there {
			p.disks[e.Node].Fail()
		}
	case 9:
		for i := range p.nodes {
			if e.N&(1<<i) != 0 {
				p.disks[i].Crash(e.L)
				p.nodes[i], _ = node.New(i, p.conf, p.disks[i])
			}
		}
	case 10:
		for i := range p.nodes {
			p.ticks(i)
		}
		for n := 0; n < 2000 && p.w.Len() > 0; n++ {
			p.arrives(0)
		}
	}
	return p.told
}

// same holds a cluster against it.
func (p *plain) same(t *testing.T, x *cluster.Cluster) {
	t.Helper()
	leader, term := -1, int64(0)
	for i := range p.nodes {
		if x.Up(i) != p.works(i) || (x.Node(i) != nil) != p.works(i) || x.Clock(i) != p.w.Clock(i) {
			t.Fatal(i, x.Up(i), p.works(i), x.Clock(i), p.w.Clock(i))
		}
		if !p.works(i) {
			continue
		}
		info := p.nodes[i].Info()
		if x.Node(i).Info() != info || x.Node(i).Applied() != p.nodes[i].Applied() || x.Node(i).Waits() != p.nodes[i].Waits() {
			t.Fatal(i, x.Node(i).Info(), info)
		}
		if info.Role == api.Leader && info.Term > term {
			leader, term = i, info.Term
		}
	}
	calm := leader >= 0
	for i, n := range p.nodes {
		if calm && p.works(i) {
			commit := p.nodes[leader].Info().Commit
			calm = n.Waits() == 0 && n.Applied() == commit && n.Top() == commit
		}
	}
	if x.Flight() != p.w.Len() || x.Leader() != leader || x.Calm() != calm || x.Nodes() != len(p.nodes) {
		t.Fatal(x.Flight(), p.w.Len(), x.Leader(), leader, x.Calm(), calm)
	}
}

// sameDisks holds the disks, too.
func (p *plain) sameDisks(t *testing.T, x *cluster.Cluster) {
	t.Helper()
	l := x.Images()
	for i, d := range p.disks {
		if !bytes.Equal(l[i], d.Image()) || !bytes.Equal(x.Disk(i).Now(), d.Now()) || x.Disk(i).Pending() != d.Pending() || x.Disk(i).Dead() != d.Dead() {
			t.Fatal("another disk", i)
		}
	}
}

// any is some number, mostly a small one.
func anyNumber(r *rand.Rand) int {
	switch r.Intn(8) {
	case 0:
		return edges[r.Intn(len(edges))]
	case 1:
		return int(r.Uint64())
	}
	return r.Intn(40) - 8
}

// P22.2 (P1): any steps, as the table says; those that can not be among them.
func TestStepsAtRandom(t *testing.T) {
	for seed := range int64(60) {
		r := rand.New(rand.NewSource(seed))
		c := confOf(1+r.Intn(5), 1, 8, 1+r.Intn(4))
		x := newLab(t, c)
		p := newPlain(c)
		login := x.loginBytes()
		for n := range 250 {
			e := api.Event{Kind: r.Intn(13) - 1, Node: r.Intn(c.Nodes+2) - 1, N: anyNumber(r)}
			if r.Intn(20) == 0 {
				e.Kind, e.Node = anyNumber(r), anyNumber(r)
			}
			for range r.Intn(5) {
				e.L = append(e.L, anyNumber(r))
			}
			switch e.Kind {
			case api.EvBytes:
				e.B = [][]byte{nil, login, []byte("junk"), bytes.Repeat([]byte{0xff}, 50)}[r.Intn(4)]
			case api.EvCut:
				if r.Intn(3) > 0 {
					e.N = 0
				}
			case api.EvFail, api.EvCrash:
				if r.Intn(3) > 0 {
					e.Kind = api.EvRound
				}
			}
			got, want := x.c.Do(e), p.do(e)
			if len(got) != len(want) || len(got) > 0 && !reflect.DeepEqual(got, want) {
				t.Fatalf("seed %d, %d: %+v: %v, not %v", seed, n, e, got, want)
			}
			p.same(t, x.c)
			if n%50 == 49 {
				p.sameDisks(t, x.c)
			}
		}
	}
}

// A round lets at most 2000 letters arrive, the first ones first.
func TestRoundOfManyLetters(t *testing.T) {
	c := confOf(2, 1, 8, 1)
	x, _ := cluster.New(c)
	p := newPlain(c)
	do := func(e api.Event, n int) {
		t.Helper()
		for range n {
			x.Do(e)
			p.do(e)
		}
		p.same(t, x)
	}
	do(api.Event{Kind: api.EvRound}, 20)
	do(api.Event{Kind: api.EvTick, Node: x.Leader()}, 1)
	do(api.Event{Kind: api.EvDouble}, 2500)
	before := x.Flight()
	do(api.Event{Kind: api.EvCut, N: 1}, 1)
	do(api.Event{Kind: api.EvRound}, 1) // all of them are lost: nothing comes of them
	if left := x.Flight(); left != before+1-2000 && left != before-2000 {
		t.Fatal(before, left)
	}
	do(api.Event{Kind: api.EvCut}, 1)
	do(api.Event{Kind: api.EvDouble}, 9000)
	do(api.Event{Kind: api.EvDouble}, 5000)
	if x.Flight() != api.MaxFlight {
		t.Fatal(x.Flight())
	}
	do(api.Event{Kind: api.EvTick, Node: x.Leader()}, 1) // what does not go into the world is lost
	if x.Flight() != api.MaxFlight {
		t.Fatal(x.Flight())
	}
	do(api.Event{Kind: api.EvRound}, 30)
	if x.Flight() != 0 || !x.Calm() {
		t.Fatal(x.Flight())
	}
}

// P22.2: letters by the rest of a number, also of those below 0.
func TestLettersByTheirRest(t *testing.T) {
	for _, n := range []int{math.MinInt, -7, -3, -2, -1, 0, 1, 2, 3, 4, 5, 100, math.MaxInt} {
		for _, kind := range []int{api.EvDeliver, api.EvDrop, api.EvDouble} {
			c := confOf(4, 1, 8, 4)
			x, _ := cluster.New(c)
			p := newPlain(c)
			e := api.Event{Kind: kind, N: n}
			x.Do(e) // there is none
			p.do(e)
			for range 10 {
				for i := range 4 {
					e := api.Event{Kind: api.EvTick, Node: i}
					x.Do(e)
					p.do(e)
				}
			}
			if x.Flight() != 3 {
				t.Fatal(x.Flight())
			}
			x.Do(e)
			p.do(e)
			p.same(t, x)
			for range 60 {
				e := api.Event{Kind: api.EvDeliver, N: n + 1}
				x.Do(e)
				p.do(e)
				p.same(t, x)
			}
		}
	}
}
