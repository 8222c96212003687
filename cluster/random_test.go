package cluster_test

import (
	"bytes"
	"math/rand"
	"slices"
	"testing"

	"caisson/api"
)

// trouble is how much of what may go wrong does.
type trouble struct {
	lost, doubled, late bool
	cuts, fails, power  bool
}

func anyTrouble(r *rand.Rand) trouble {
	is := func() bool { return r.Intn(3) > 0 }
	return trouble{lost: is(), doubled: is(), late: is(), cuts: is(), fails: is(), power: is()}
}

// some is some step of a script.
func (l *lab) some(r *rand.Rand, w trouble) {
	n := l.conf.Nodes
	switch k := r.Intn(100); {
	case k < 40 && w.late:
		l.deliver(r.Intn(2000) - 1000)
	case k < 40:
		l.deliver(0)
	case k < 65:
		l.ticks(r.Intn(n), 1)
	case k < 68 && w.lost:
		l.drop(r.Intn(1000))
	case k < 71 && w.doubled:
		l.step(api.Event{Kind: api.EvDouble, N: r.Intn(1000)})
	case k < 73:
		l.step(api.Event{Kind: api.EvDraw, Node: r.Intn(n), N: r.Intn(100)})
	case k < 76 && w.cuts:
		l.cut(r.Intn(1 << n))
	case k < 80:
		l.cut(0)
	case k < 82 && w.fails:
		l.fail(r.Intn(n))
	case k < 84 && w.power:
		l.crash(1<<r.Intn(n), r.Intn(1<<16), r.Intn(1<<16), r.Intn(1<<16), r.Intn(1<<16), r.Intn(1<<16))
	case k < 85 && w.power:
		l.crash(r.Intn(1<<n), slices.Repeat([]int{-r.Intn(2)}, 5)...)
	case k < 92:
		l.rounds(1 + r.Intn(3))
	}
}

// aim is the machine that leads, mostly.
func (l *lab) aim(r *rand.Rand) int {
	if n := l.c.Leader(); n >= 0 && r.Intn(4) > 0 {
		return n
	}
	return r.Intn(l.conf.Nodes)
}

// quiet ends all trouble, and asks for P8: behind so many rounds as it may take, all commands are answered, and by who leads not with standing by.
func (l *lab) quiet() {
	l.t.Helper()
	l.cut(0)
	l.crash(-1, slices.Repeat([]int{-1}, 300)...)
	bound := 24 + l.c.Flight()/1000
	for range bound {
		l.rounds(1)
	}
	l.calm()
	for i := range l.conf.Nodes {
		if !l.c.Up(i) {
			l.t.Fatal("it does not work:", i)
		}
		for _, a := range []ask{read(0, 1), write(0, 1), ready(), keys(0)} {
			x := l.send(9, i, a)
			l.rounds(2)
			if !x.told || standing(x.r) == (i == l.lead()) {
				l.t.Fatalf("%x at %d: %+v", a.cdb, i, x)
			}
		}
	}
	l.rounds(1)
	l.calm()
}

// P2, P3, P5, P8, P22.3: whatever letters are lost, doubled and late, whoever is cut off, fails and stops: some order of the commands explains all that was answered, machines have the same state, and it goes on.
func TestScriptsAtRandom(t *testing.T) {
	told, calls, idles := 0, 0, 0
	for seed := range int64(500) {
		r := rand.New(rand.NewSource(seed))
		l := newLab(t, confOf(1+r.Intn(5), 1+r.Intn(2), 4, 1+r.Intn(4)))
		w := anyTrouble(r)
		if r.Intn(3) > 0 {
			l.rounds(12 + r.Intn(10))
		}
		for sent := 0; sent < 8; {
			l.some(r, w)
			if r.Intn(12) == 0 {
				l.send(r.Intn(3), l.aim(r), anyAsk(r, l.conf, sent))
				sent++
			}
		}
		for range 50 {
			l.some(r, w)
		}
		l.same()
		if !linear(l.conf, l.calls) {
			for _, x := range l.calls {
				t.Logf("%+v", *x)
			}
			t.Fatal("nothing explains the seed", seed)
		}
		for _, x := range l.calls {
			calls++
			if x.told && !idle(x.r) {
				told++
			} else if x.told {
				idles++
			}
		}
		l.quiet()
	}
	if told < calls/4 || idles < calls/20 || calls < 3000 {
		t.Error("little happened:", calls, told, idles)
	}
}

// P3, P4, P5: long scripts, with images, of one initiator for each block: what is read is what was answered last, or what was sent since and not answered.
func TestLongScripts(t *testing.T) {
	good, reads, high := 0, 0, int64(0)
	for seed := range int64(40) {
		r := rand.New(rand.NewSource(1000 + seed))
		c := confOf(1+r.Intn(5), 1+r.Intn(3), 1+r.Intn(8), 1+r.Intn(4))
		l := newLab(t, c)
		w := anyTrouble(r)
		l.rounds(12)
		may := map[[2]int][]byte{} // what each block may have, the first one told last
		open := map[[2]int][]*call{}
		for n := range 300 {
			for range r.Intn(8) {
				l.some(r, w)
			}
			if n%20 == 0 {
				l.same()
			}
			lun, lba := r.Intn(c.Units), r.Intn(c.Blocks)
			key := [2]int{lun, lba}
			if may[key] == nil {
				may[key] = []byte{0}
			}
			val := byte(1 + n%250)
			a := write(lba, val)
			if r.Intn(3) == 0 {
				a = read(lba, 1)
			}
			a.lun = lun
			x := l.send(lba, l.aim(r), a)
			for range 4 {
				if !x.told {
					l.rounds(1)
				}
			}
			switch {
			case a.data == nil && x.told && x.r.Status == api.Good:
				reads++
				if !slices.Contains(may[key], x.r.Data[0]) {
					t.Fatalf("seed %d, %d: the block %v has %d, not one of %v", seed, n, key, x.r.Data[0], may[key])
				}
			case a.data != nil && x.told && x.r.Status == api.Good:
				good++
				if len(open[key]) == 0 { // else one that was not answered may still be done behind it
					may[key] = []byte{val}
				} else {
					may[key] = append(may[key], val)
				}
			case a.data != nil && !x.told && x.begin > 0:
				may[key] = append(may[key], val)
				open[key] = append(open[key], x)
			}
			if r.Intn(100) == 0 { // what is not agreed on when all is quiet will never be
				l.quietly(may, open)
			}
		}
		l.same()
		l.quietly(may, open)
		l.quiet()
		high = max(high, l.c.Node(0).Applied())
	}
	if good < 1000 || reads < 500 || high < 150 {
		t.Error("little happened:", good, reads, high)
	}
}

// quietly lets all be quiet for a while, and reads all blocks: what they have then they have.
func (l *lab) quietly(may map[[2]int][]byte, open map[[2]int][]*call) {
	l.t.Helper()
	l.cut(0)
	l.crash(-1)
	l.lose()
	for range 40 {
		l.rounds(1)
	}
	l.calm()
	for key := range may {
		a := read(key[1], 1)
		a.lun = key[0]
		b := l.good(10, a)
		if !slices.Contains(may[key], b[0]) || !bytes.Equal(b, fill(b[0], 1)) {
			l.t.Fatalf("the block %v has %d, not one of %v", key, b[0], may[key])
		}
		may[key] = []byte{b[0]}
		open[key] = nil
	}
}
