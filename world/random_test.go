package world_test

import (
	"math/rand"
	"slices"
	"strconv"
	"strings"
	"testing"

	"caisson/api"
	"caisson/world"
)

// model is a world as the document has it, and what P8.5 and P8.6 say of it.
type model struct {
	t           *testing.T
	r           *rand.Rand
	w           *world.World
	n, rho      int
	flight      []world.Letter
	cut         int
	clocks      []int64
	taken, lost int64
	closed      bool
	sent        int
	left        map[string]int // how often a letter may still come, by its text
	before      [][]int64      // the clocks, tick by tick
}

func newModel(t *testing.T, seed int64) *model {
	r := rand.New(rand.NewSource(seed))
	m := &model{t: t, r: r, n: 1 + r.Intn(5), rho: 1 + r.Intn(4), left: map[string]int{}}
	m.w, m.clocks = newWorld(t, m.n, m.rho), make([]int64, m.n)
	return m
}

func (m *model) apart(a, b int) bool { return m.cut>>a&1 != m.cut>>b&1 }

// among is mostly a number below n, and now and then one that is not.
func (m *model) among(n int) int { return m.r.Intn(n+1+n/3) - m.r.Intn(2)*m.r.Intn(2) }

func (m *model) is(what string, e, want api.Errno) {
	m.t.Helper()
	if e != want {
		m.t.Fatalf("%s: %v, not %v", what, e, want)
	}
}

func (m *model) send() {
	m.t.Helper()
	from, to := m.among(m.n), m.among(m.n)
	m.sent++
	text := strconv.Itoa(m.sent) + strings.Repeat(".", m.r.Intn(9))
	want := api.OK
	if m.closed {
		want = api.ErrState
	} else if min(from, to) < 0 || max(from, to) >= m.n {
		want = api.ErrArg
	} else {
		m.flight = append(m.flight, world.Letter{From: from, To: to, Data: []byte(text)})
		m.left[text]++
	}
	m.is("Send", m.w.Send(from, to, []byte(text)), want)
}

func (m *model) take(k int) {
	m.t.Helper()
	x, e := m.w.Take(k)
	if k < 0 || k >= len(m.flight) {
		m.is("Take", e, api.ErrArg)
		return
	}
	l := m.flight[k]
	m.flight = slices.Delete(m.flight, k, k+1)
	if m.apart(l.From, l.To) {
		m.lost++
		m.is("Take", e, api.ErrState)
		return
	}
	m.taken++
	m.is("Take", e, api.OK)
	if !isLetter(x, l.From, l.To, string(l.Data)) {
		m.t.Fatal("Take", x, l)
	}
	m.left[string(x.Data)]--
	if m.left[string(x.Data)] < 0 || m.w.Apart(x.From, x.To) {
		m.t.Fatal("a letter that can not come", x)
	}
}

func (m *model) dropOrDouble(k int) {
	m.t.Helper()
	drop := m.r.Intn(2) == 0
	want := api.OK
	if k < 0 || k >= len(m.flight) {
		want = api.ErrArg
	} else if drop {
		m.flight = slices.Delete(m.flight, k, k+1)
		m.lost++
	} else {
		m.flight = append(m.flight, m.flight[k])
		m.left[string(m.flight[k].Data)]++
	}
	if drop {
		m.is("Drop", m.w.Drop(k), want)
	} else {
		m.is("Double", m.w.Double(k), want)
	}
}

func (m *model) cutOff(mask int) {
	m.t.Helper()
	if mask < 0 || mask >= 1<<m.n {
		m.is("Cut", m.w.Cut(mask), api.ErrArg)
		return
	}
	m.cut = mask
	m.is("Cut", m.w.Cut(mask), api.OK)
}

func (m *model) tick(i int) {
	m.t.Helper()
	if i < 0 || i >= m.n {
		m.is("Tick", m.w.Tick(i), api.ErrArg)
		return
	}
	may := m.clocks[i]-slices.Min(m.clocks) < int64(m.rho)
	if m.n > 1 && m.w.May(i) != may {
		m.t.Fatal("May", i, m.clocks, m.rho)
	}
	want := api.OK
	if m.n > 1 && !may {
		want = api.ErrState
	} else {
		m.clocks[i]++
	}
	m.is("Tick", m.w.Tick(i), want)
	m.before = append(m.before, slices.Clone(m.clocks))
}

func (m *model) step() {
	m.t.Helper()
	switch m.r.Intn(12) {
	case 0, 1, 2:
		m.send()
	case 3, 4:
		m.take(m.among(len(m.flight)))
	case 5, 6:
		m.dropOrDouble(m.among(len(m.flight)))
	case 7:
		m.cutOff(m.among(1<<m.n) * m.r.Intn(2))
	case 8:
		if m.r.Intn(40) == 0 {
			if m.w.Close() == m.closed {
				m.t.Fatal("Close")
			}
			m.closed = true
		}
	default:
		m.tick(m.among(m.n))
	}
}

func (m *model) check() {
	m.t.Helper()
	if m.w.Len() != len(m.flight) || m.w.Taken() != m.taken || m.w.Lost() != m.lost {
		m.t.Fatal("Len, Taken, Lost", m.w.Len(), m.w.Taken(), m.w.Lost())
	}
	for k, l := range m.flight {
		if x, e := m.w.Look(k); e != api.OK || !isLetter(x, l.From, l.To, string(l.Data)) {
			m.t.Fatal("Look", k, x, e)
		}
	}
	somebody := false
	for i := range m.n {
		somebody = somebody || m.w.May(i)
		for j := range m.n {
			if m.w.Clock(i)-m.w.Clock(j) > int64(m.rho) || m.w.Clock(i) != m.clocks[i] {
				m.t.Fatal("the clocks", i, j, m.w.Clock(i), m.w.Clock(j), m.rho)
			}
			if m.w.Apart(i, j) != m.apart(i, j) {
				m.t.Fatal("Apart", i, j)
			}
		}
	}
	if !somebody {
		m.t.Fatal("nobody may tick")
	}
}

// checkUnlike holds P8.6 between any two moments.
func (m *model) checkUnlike() {
	m.t.Helper()
	for i, early := range m.before {
		for _, late := range m.before[i:] {
			for a := range m.n {
				for b := range m.n {
					if unlike := late[a] - early[a] - (late[b] - early[b]); unlike > int64(2*m.rho) {
						m.t.Fatal("two machines tick unlike", unlike, m.rho)
					}
				}
			}
		}
	}
}

// P8.2 to P8.6: whatever is done.
func TestAtRandom(t *testing.T) {
	var taken, lost int64
	for seed := range int64(200) {
		m := newModel(t, seed)
		for range 300 {
			m.step()
			m.check()
		}
		m.checkUnlike()
		taken, lost = taken+m.taken, lost+m.lost
	}
	if taken < 1000 || lost < 1000 {
		t.Error("hardly any letter came or was lost:", taken, lost)
	}
}
