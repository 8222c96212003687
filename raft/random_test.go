package raft_test

import (
	"encoding/binary"
	"hash/fnv"
	"math/bits"
	"math/rand"
	"testing"

	"caisson/api"
	"caisson/raft"
)

// state is what entries make of nothing, done one behind the other.
type state uint64

func (s state) then(e api.Entry) state {
	h := fnv.New64a()
	h.Write(binary.BigEndian.AppendUint64(nil, uint64(s)))
	h.Write(binary.BigEndian.AppendUint64([]byte{byte(e.Kind)}, uint64(e.Term)))
	h.Write(e.Cmd)
	return state(h.Sum64())
}

// machine is a replica, and what whoever has it knows.
type machine struct {
	*raft.Raft
	done   int64           // up to where entries are done
	states map[int64]state // by places, from the floor on
	since  int             // ticks since it heard a leader, or began
	before raft.Info
	change int64 // of its log
}

// tally is how often what is told of happened, so that a run in which nothing does is seen.
type tally struct{ leaders, agreed, changes, cut, images, starts, quiet int }

// cluster is five machines, and what is on its way between them.
type cluster struct {
	t       *testing.T
	r       *rand.Rand
	seed    int64
	members int // at first
	all     [api.MaxNodes]*machine
	flight  []api.Msg
	apart   int
	leaders map[int64]int
	votes   map[[2]int64]int // by a machine and a term
	agreed  []api.Entry
	states  []state
	loss    int
	tally   tally
}

func newCluster(t *testing.T, seed int64) *cluster {
	r := rand.New(rand.NewSource(seed))
	c := &cluster{t: t, r: r, seed: seed, members: 1 + r.Intn(31), leaders: map[int64]int{}, votes: map[[2]int64]int{}, states: []state{0}, loss: r.Intn(30)}
	for i := range c.all {
		x := begun(t, i, c.members)
		c.all[i] = &machine{Raft: x, states: map[int64]state{0: 0}, before: x.Info()}
	}
	return c
}

func (c *cluster) fail(what string, l ...any) {
	c.t.Helper()
	c.t.Fatal(append([]any{"seed", c.seed, what}, l...)...)
}

func (c *cluster) send(l []api.Msg) {
	for _, m := range l {
		if c.r.Intn(100) < c.loss || len(c.flight) > 300 {
			continue
		}
		c.flight = append(c.flight, m)
	}
}

// next is mostly the message that is on its way the longest, and at times any.
func (c *cluster) next() (api.Msg, bool) {
	if len(c.flight) == 0 {
		return api.Msg{}, false
	}
	k := 0
	if c.r.Intn(4) == 0 {
		k = c.r.Intn(len(c.flight))
	}
	m := c.flight[k]
	if c.r.Intn(8) > 0 { // else it comes once more
		c.flight = append(c.flight[:k], c.flight[k+1:]...)
	}
	return m, c.apart>>m.From&1 == c.apart>>m.To&1
}

func (c *cluster) deliver() {
	c.t.Helper()
	m, comes := c.next()
	if !comes {
		return
	}
	x := c.all[m.To]
	before := x.Info()
	l := x.Take(m)
	leads := before.Role == api.Leader
	switch m.Kind {
	case api.Ask, api.Vote:
		if !leads && x.since < raft.Least {
			c.tally.quiet++
			if len(l) != 1 || l[0].Yes || x.Info() != before {
				c.fail("P10.8", m.To, x.since, l)
			}
		}
	case api.Beat, api.Add, api.Part:
		if m.Term > before.Term || m.Term == before.Term && !leads {
			x.since = 0
		}
	}
	c.send(l)
	c.look(m.To)
}

func (c *cluster) tick(i int) {
	c.t.Helper()
	x := c.all[i]
	x.since++
	if c.r.Intn(3) == 0 {
		x.Draw(c.r.Intn(100) - 50)
	}
	c.send(x.Tick())
	c.look(i)
}

// offer lets members join and leave, one at a time, and else writes.
func (c *cluster) offer(i int) {
	c.t.Helper()
	x := c.all[i]
	kind, cmd := api.Write, binary.BigEndian.AppendUint32(nil, c.r.Uint32())
	if c.r.Intn(4) == 0 {
		kind, cmd = api.Config, []byte{byte(x.Info().Members ^ 1<<c.r.Intn(5))}
	}
	_, l, _ := x.Offer(kind, cmd)
	c.send(l)
	c.look(i)
}

func (c *cluster) floor(i int) {
	c.t.Helper()
	x := c.all[i]
	low, _, _ := x.Log().Floor()
	at := low + c.r.Int63n(x.done-low+1)
	ok(c.t, x.Floor(at))
	for ; low < at; low++ {
		delete(x.states, low)
	}
	c.look(i)
}

// images sends an image to who lacks one, in one part: the state at the floor.
func (c *cluster) images(i int) {
	c.t.Helper()
	x := c.all[i]
	at, _, _ := x.Log().Floor()
	for _, to := range x.Lacking() {
		m, e := x.Part(to, binary.BigEndian.AppendUint64(nil, uint64(x.states[at])))
		ok(c.t, e)
		c.send([]api.Msg{m})
	}
	for _, m := range x.Parts() {
		l, e := x.Settle(m)
		if e != api.OK {
			continue
		}
		c.tally.images++
		x.done, x.states = m.At, map[int64]state{m.At: state(binary.BigEndian.Uint64(m.Data))}
		c.send(l)
	}
	c.look(i)
}

// startAgain has what was kept: the term, the vote, the log, and the state at its floor.
func (c *cluster) startAgain(i int) {
	c.t.Helper()
	x := c.all[i]
	info, log := x.Info(), x.Log()
	at, _, _ := log.Floor()
	y := newRaft(c.t, i, info.Term, info.Voted, log, at)
	c.all[i] = &machine{Raft: y, done: at, states: map[int64]state{at: x.states[at]}, before: y.Info(), change: x.change}
	c.tally.starts++
	c.look(i)
}

func (c *cluster) step() {
	c.t.Helper()
	i := c.r.Intn(5)
	switch n := c.r.Intn(1000); {
	case n < 350:
		c.tick(i)
	case n < 930:
		c.deliver()
	case n < 965:
		c.offer(c.leader(i))
	case n < 970:
		c.floor(i)
	case n < 989:
		c.images(i)
	case n < 991:
		c.startAgain(i)
	case n < 993:
		c.apart = c.r.Intn(32)
	case n < 995:
		c.apart = 1 << c.leader(i)
	default:
		c.apart = 0
	}
}

// leader is a machine that leads, though perhaps not any more by what others know; i, if there is none.
func (c *cluster) leader(i int) int {
	for range c.all {
		if i = (i + 1) % len(c.all); c.all[i].Info().Role == api.Leader {
			break
		}
	}
	return i
}

// look holds a machine against what is promised of all of them.
func (c *cluster) look(i int) {
	c.t.Helper()
	x := c.all[i]
	now := x.Info()
	if now.Term < x.before.Term || now.Commit < x.before.Commit {
		c.fail("P10.7", i, x.before, now)
	}
	if now.Role == api.Leader {
		who, led := c.leaders[now.Term]
		if led && who != i {
			c.fail("two leaders of the term", now.Term, who, i)
		}
		if !led {
			c.tally.leaders++
		}
		c.leaders[now.Term] = i
	}
	if who, voted := c.votes[[2]int64{int64(i), now.Term}]; voted && who != now.Voted {
		c.fail("two votes in the term", now.Term, i, who, now.Voted)
	}
	if now.Voted >= 0 {
		c.votes[[2]int64{int64(i), now.Term}] = now.Voted
	}
	c.lookAtChange(x, now)
	x.before = now
	c.do(i, now.Commit)
}

func (c *cluster) lookAtChange(x *machine, now raft.Info) {
	change := x.Log().Change()
	if x.change > now.Commit && change < x.change {
		c.tally.cut++
	}
	x.change = change
}

// do does what is agreed on, and holds it against what others have done.
func (c *cluster) do(i int, commit int64) {
	c.t.Helper()
	x := c.all[i]
	for n := x.done + 1; n <= commit; n++ {
		e, there := x.Log().At(n)
		if !there {
			c.fail("an entry that is agreed on is not there", i, n)
		}
		if n > int64(len(c.agreed)) {
			c.agreed = append(c.agreed, e)
			c.states = append(c.states, c.states[n-1].then(e))
			c.tally.agreed++
			if e.Kind == api.Config {
				c.tally.changes++
			}
		}
		if !sameEntry(e, c.agreed[n-1]) {
			c.fail("P10.6", i, n, e, c.agreed[n-1])
		}
		x.states[n] = x.states[n-1].then(e)
	}
	x.done = commit
	if x.states[commit] != c.states[commit] {
		c.fail("P5", i, commit)
	}
	at, term, members := x.Log().Floor()
	if at > commit || term != c.termOf(at) || members != c.membersOf(at) {
		c.fail("the floor", i, at, term, members)
	}
}

func (c *cluster) termOf(n int64) int64 {
	if n == 0 {
		return 0
	}
	return c.agreed[n-1].Term
}

func (c *cluster) membersOf(n int64) int {
	for ; n > 0; n-- {
		if e := c.agreed[n-1]; e.Kind == api.Config {
			return int(e.Cmd[0])
		}
	}
	return c.members
}

// P10.6, P10.7, P10.8, P5: whatever messages are lost, doubled and late, whoever is cut off, starts again, joins or leaves.
func TestClustersAtRandom(t *testing.T) {
	var all tally
	for seed := range int64(80) {
		c := newCluster(t, seed)
		for range 12000 {
			c.step()
		}
		all.leaders += c.tally.leaders
		all.agreed += c.tally.agreed
		all.changes += c.tally.changes
		all.cut += c.tally.cut
		all.images += c.tally.images
		all.starts += c.tally.starts
		all.quiet += c.tally.quiet
	}
	t.Logf("%+v", all)
	if all.leaders < 300 || all.agreed < 3000 || all.changes < 200 || all.cut < 20 || all.images < 30 || all.starts < 500 || all.quiet < 500 {
		t.Errorf("too little happened: %+v", all)
	}
}

// rounds lets all clocks tick, and what is on its way arrive; floors are moved up to what is done, as whoever has a replica does.
func (c *cluster) rounds(n int) {
	c.t.Helper()
	for range n {
		for i, x := range c.all {
			c.tick(i)
			ok(c.t, x.Floor(x.done))
			c.images(i)
		}
		for k := 0; k < 2000 && len(c.flight) > 0; k++ {
			m := c.flight[0]
			c.flight = c.flight[1:]
			c.send(c.all[m.To].Take(m))
			c.look(m.To)
			c.images(m.To)
		}
	}
}

// P10.6: behind it all, when nothing is lost any more, all members agree on all that the leader has.
func TestClustersComeToRest(t *testing.T) {
	for seed := range int64(40) {
		c := newCluster(t, 1000+seed)
		for range 3000 {
			c.step()
		}
		c.apart, c.loss = 0, 0
		c.rounds(60)
		leader := -1
		for i, x := range c.all {
			if x.Info().Role == api.Leader && (leader < 0 || x.Info().Term > c.all[leader].Info().Term) {
				leader = i
			}
		}
		if leader < 0 {
			c.fail("nobody leads")
		}
		info := c.all[leader].Info()
		top, _ := c.all[leader].Log().Top()
		if info.Commit != top || bits.OnesCount(uint(info.Members)) == 0 {
			c.fail("not all is agreed on", info, top)
		}
		for _, i := range othersOf(leader, info.Members) {
			if x := c.all[i].Info(); x.Commit != top || x.Leader != leader || x.Members != info.Members {
				c.fail("a member is not as the leader is", i, x, info)
			}
		}
	}
}
