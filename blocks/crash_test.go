package blocks_test

import (
	"math/rand"
	"testing"

	"caisson/api"
	"caisson/blocks"
	"caisson/disk"
	"caisson/extent"
)

// state is what a store has.
type state struct {
	n int64
	m *extent.Image
}

func (a state) same(b state) bool { return a.n == b.n && a.m.Same(b.m) }

func stateOf(s *blocks.Store) state { return state{s.Applied(), s.Image()} }

// bench is a store that is asked at random, and what P6.3 and P6.4 say of it.
type bench struct {
	t      *testing.T
	r      *rand.Rand
	d      *disk.Disk
	s      *blocks.Store
	from   int
	blocks int
	safe   state // of the last call that was answered OK
	trying state // of the one that was not
	news   int   // how often a crash kept what was not answered OK
}

func newBench(t *testing.T, seed int64) *bench {
	r := rand.New(rand.NewSource(seed))
	b := &bench{t: t, r: r, from: r.Intn(3), blocks: []int{1, 2, 3, 4, 7, 30, 256}[r.Intn(7)]}
	b.d = newDisk(t, b.from+blocks.Need(b.blocks))
	b.s = opened(t, b.d, b.from, b.blocks)
	b.safe = stateOf(b.s)
	b.trying = b.safe
	return b
}

// data is a block's bytes: random ones, all alike, or part of what stands on the disk, as nothing is promised of them.
func (b *bench) data() []byte {
	out := make([]byte, api.Block)
	switch b.r.Intn(3) {
	case 0:
		b.r.Read(out)
	case 1:
		now := b.d.Now()
		copy(out, now[b.r.Intn(len(now)/api.Block)*api.Block:])
	case 2:
		copy(out, full(1, byte(b.r.Intn(3))))
	}
	return out
}

func (b *bench) changes() []api.Change {
	var l []api.Change
	for range b.r.Intn(2) * b.r.Intn(blocks.Most+1) / (1 + b.r.Intn(20)) {
		c := api.Change{Lba: b.r.Intn(b.blocks)}
		if b.r.Intn(3) > 0 {
			c.Data = b.data()
		}
		l = append(l, c)
	}
	return l
}

func (b *bench) takeAway() []api.Change {
	var l []api.Change
	for range b.r.Intn(5) {
		l = append(l, gone(b.r.Intn(b.blocks)))
	}
	return l
}

func (b *bench) apply(l []api.Change) {
	b.t.Helper()
	next := state{b.safe.n + 1 + b.r.Int63n(3), b.safe.m.Copy()}
	ok(b.t, next.m.Change(l))
	b.done(b.s.Apply(next.n, l), next)
}

func (b *bench) replace() {
	b.t.Helper()
	next := state{b.safe.n + 1, newImage(b.t, b.blocks)}
	for lba := range b.blocks {
		if b.r.Intn(3) > 0 {
			ok(b.t, next.m.Write(lba, b.data()))
		}
	}
	b.done(b.s.Replace(next.n, next.m), next)
}

// done is said behind a call that was to make the store next.
func (b *bench) done(e api.Errno, next state) {
	b.t.Helper()
	switch e {
	case api.OK:
		b.safe, b.trying = next, next
	case api.ErrFlush:
		b.trying = next
	default:
		b.t.Fatal("a call:", e)
	}
	if !stateOf(b.s).same(b.safe) || b.s.Dead() != (e != api.OK) {
		b.t.Fatal("the store is not as it was said", b.s.Applied(), e)
	}
}

func (b *bench) step() {
	b.t.Helper()
	switch b.r.Intn(8) {
	default:
		b.apply(b.changes())
	case 0:
		b.apply(b.takeAway())
	case 1:
		b.replace()
	case 2:
		b.d.Fail()
	case 3: // P6.4
		b.s = opened(b.t, b.d, b.from, b.blocks)
		if !stateOf(b.s).same(b.safe) {
			b.t.Fatal("opened again it is not as it was", b.s.Applied(), b.safe.n)
		}
	}
}

// crash lets the disk crash, some ways, opens the store, and goes on with one of them.
func (b *bench) crash() {
	b.t.Helper()
	for i := range 4 {
		d := b.d.Copy()
		d.Crash(b.kept(d.Pending(), i))
		if b.r.Intn(3) == 0 { // and again, while it is opened
			d.Fail()
			blocks.Open(d, b.from, b.blocks)
			d.Crash(b.kept(d.Pending(), i))
		}
		s := opened(b.t, d, b.from, b.blocks)
		got := stateOf(s)
		if !got.same(b.safe) && !got.same(b.trying) {
			b.t.Fatalf("behind a crash up to %d, not up to %d or %d, or other blocks", got.n, b.safe.n, b.trying.n)
		}
		if !got.same(b.safe) {
			b.news++
		}
		if i == 3 { // from now on this is what it has
			b.d, b.s, b.safe, b.trying = d, s, got, got
		}
	}
}

func (b *bench) kept(groups, way int) []int {
	l := make([]int, groups)
	for i := range l {
		switch way {
		case 1:
			l[i] = -1
		case 2, 3:
			l[i] = b.r.Intn(1<<16) * b.r.Intn(2) // some of it, or nothing
			if b.r.Intn(3) == 0 {
				l[i] = -1
			}
		}
	}
	return l
}

// P6.3, P6.4: whatever is asked, and whenever the disk crashes.
func TestCrashes(t *testing.T) {
	news := 0
	for seed := range int64(150) {
		b := newBench(t, seed)
		for range 60 {
			if b.s.Dead() || b.r.Intn(10) == 0 {
				b.crash()
			} else {
				b.step()
			}
		}
		news += b.news
	}
	if news == 0 {
		t.Error("no crash kept what was not answered OK: this is not tried")
	}
}
