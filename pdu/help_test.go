package pdu_test

import (
	"bytes"
	"encoding/binary"
	"hash/crc32"
	"math"
	"math/rand"
	"reflect"
	"slices"
	"testing"

	"caisson/api"
	"caisson/pdu"
)

// most is how many bytes may wait.
const most = 131072

// digestOf is the CRC-32C of b, by the library, its lowest byte first.
func digestOf(b []byte) []byte {
	return binary.LittleEndian.AppendUint32(nil, crc32.Checksum(b, crc32.MakeTable(crc32.Castagnoli)))
}

// written is a letter's bytes, byte by byte as the document says them, if it can be.
func written(p pdu.Pdu, o pdu.Opts) []byte {
	b := make([]byte, 48)
	b[0] = byte(p.Op)
	if p.Now {
		b[0] += 64
	}
	b[1], b[2], b[3] = byte(p.Flags), byte(p.B2), byte(p.B3)
	n := len(p.Data)
	b[5], b[6], b[7] = byte(n/65536), byte(n/256%256), byte(n%256)
	binary.BigEndian.PutUint64(b[8:], p.Lun)
	binary.BigEndian.PutUint32(b[16:], p.Task)
	for i, w := range p.W {
		binary.BigEndian.PutUint32(b[20+4*i:], w)
	}
	if o.HeadSum {
		b = append(b, digestOf(b)...)
	}
	return append(b, bodyOf(p.Data, o)...)
}

// bodyOf is what stands behind a head of these data.
func bodyOf(data []byte, o pdu.Opts) []byte {
	b := slices.Clone(data)
	for len(b)%4 != 0 {
		b = append(b, 0)
	}
	if o.DataSum && len(data) > 0 {
		b = append(b, digestOf(b)...)
	}
	return b
}

// model is a Reader, as the document says it.
type model struct {
	o       pdu.Opts
	waiting []byte
	dead    bool
}

func can(o pdu.Opts) bool { return o.Most >= 48 && o.Most <= 65536 }

func (m *model) feed(b []byte) api.Errno {
	switch {
	case m.dead:
		return api.ErrDead
	case len(m.waiting)+len(b) > most:
		m.dead, m.waiting = true, nil
		return api.ErrFull
	}
	m.waiting = slices.Concat(m.waiting, b)
	return api.OK
}

func (m *model) set(o pdu.Opts) api.Errno {
	switch {
	case m.dead:
		return api.ErrDead
	case !can(o):
		return api.ErrArg
	}
	m.o = o
	return api.OK
}

func (m *model) next() (pdu.Pdu, api.Errno, bool) {
	if m.dead {
		return pdu.Pdu{}, api.ErrDead, true
	}
	behind := 48
	if m.o.HeadSum {
		behind += 4
	}
	b := m.waiting
	if len(b) < behind {
		return pdu.Pdu{}, api.OK, false
	}
	n := int(b[5])<<16 + int(b[6])<<8 + int(b[7])
	wrong := api.OK
	switch {
	case m.o.HeadSum && !bytes.Equal(b[48:52], digestOf(b[:48])):
		wrong = api.ErrSum
	case b[4] != 0 || b[0] >= 128:
		wrong = api.ErrForm
	case n > m.o.Most:
		wrong = api.ErrSize
	}
	if wrong != api.OK {
		m.dead, m.waiting = true, nil
		return pdu.Pdu{}, wrong, true
	}
	zeros := behind + n
	end := behind + (n+3)/4*4
	all := end
	if m.o.DataSum && n > 0 {
		all += 4
	}
	if len(b) < all {
		return pdu.Pdu{}, api.OK, false
	}
	m.waiting = slices.Clone(b[all:])
	p := pdu.Pdu{Op: int(b[0] % 64), Now: b[0]/64 == 1, Flags: int(b[1]), B2: int(b[2]), B3: int(b[3]), Lun: binary.BigEndian.Uint64(b[8:]), Task: binary.BigEndian.Uint32(b[16:])}
	for i := range 7 {
		p.W[i] = binary.BigEndian.Uint32(b[20+4*i:])
	}
	if all > end && !bytes.Equal(b[end:all], digestOf(b[behind:end])) {
		return p, api.ErrSum, true
	}
	if !bytes.Equal(b[zeros:end], make([]byte, end-zeros)) {
		return p, api.ErrForm, true
	}
	p.Data = slices.Clone(b[behind:zeros])
	return p, api.OK, true
}

// same holds two letters against each other; no data are nil or not.
func same(a, b pdu.Pdu) bool {
	if !bytes.Equal(a.Data, b.Data) {
		return false
	}
	a.Data, b.Data = nil, nil
	return reflect.DeepEqual(a, b)
}

// four are the digests in all four ways.
func four(most int) []pdu.Opts {
	return []pdu.Opts{{Most: most}, {HeadSum: true, Most: most}, {DataSum: true, Most: most}, {HeadSum: true, DataSum: true, Most: most}}
}

// wrongOpts can not be agreed on.
func wrongOpts() []pdu.Opts {
	var l []pdu.Opts
	for _, n := range []int{math.MinInt, -65536, -48, -1, 0, 1, 47, 65537, 65536 + 48, 1 << 32, 1<<32 + 100, math.MaxInt} {
		l = append(l, four(n)...)
	}
	return l
}

// noise is n bytes at random.
func noise(rnd *rand.Rand, n int) []byte {
	b := make([]byte, n)
	rnd.Read(b)
	return b
}

// anyPdu is a letter that can be, with n data.
func anyPdu(rnd *rand.Rand, n int) pdu.Pdu {
	p := pdu.Pdu{Op: rnd.Intn(64), Now: rnd.Intn(2) == 1, Flags: rnd.Intn(256), B2: rnd.Intn(256), B3: rnd.Intn(256), Lun: rnd.Uint64(), Task: rnd.Uint32(), Data: noise(rnd, n)}
	for i := range p.W {
		p.W[i] = rnd.Uint32()
	}
	return p
}

// put is Put of what can be.
func put(t *testing.T, p pdu.Pdu, o pdu.Opts) []byte {
	t.Helper()
	b, e := pdu.Put(p, o)
	if e != api.OK {
		t.Fatalf("Put of %d data with %+v: %v", len(p.Data), o, e)
	}
	return b
}

// reader is New of what can be.
func reader(t *testing.T, o pdu.Opts) *pdu.Reader {
	t.Helper()
	r, e := pdu.New(o)
	if e != api.OK || r == nil {
		t.Fatalf("New of %+v: %v", o, e)
	}
	return r
}

// fed is a Reader that b has come to.
func fed(t *testing.T, o pdu.Opts, b []byte) *pdu.Reader {
	t.Helper()
	r := reader(t, o)
	feeds(t, r, b)
	return r
}

func feeds(t *testing.T, r *pdu.Reader, b []byte) {
	t.Helper()
	if e := r.Feed(b); e != api.OK {
		t.Fatalf("Feed of %d bytes: %v", len(b), e)
	}
}

// tells asks for a letter that is there, and what is left then.
func tells(t *testing.T, r *pdu.Reader, want pdu.Pdu, wantE api.Errno, left int) {
	t.Helper()
	if p, e, ok := r.Next(); !ok || e != wantE || !same(p, want) {
		t.Fatalf("Next: %+v %v %v, not %+v %v", p, e, ok, want, wantE)
	}
	shows(t, r, left, false)
}

// waits asks for a letter that is not there yet: that changes nothing.
func waits(t *testing.T, r *pdu.Reader, left int) {
	t.Helper()
	for range 2 {
		if p, e, ok := r.Next(); ok || e != api.OK || !same(p, pdu.Pdu{}) {
			t.Fatalf("Next: %+v %v %v, not nothing", p, e, ok)
		}
		shows(t, r, left, false)
	}
}

// dies asks for a letter whose error makes the Reader dead, and then for all else of it.
func dies(t *testing.T, r *pdu.Reader, want api.Errno) {
	t.Helper()
	if p, e, ok := r.Next(); !ok || e != want || !same(p, pdu.Pdu{}) {
		t.Fatalf("Next: %+v %v %v, not %v", p, e, ok, want)
	}
	isDead(t, r)
}

// isDead holds a dead Reader against all that it answers.
func isDead(t *testing.T, r *pdu.Reader) {
	t.Helper()
	for range 2 {
		shows(t, r, 0, true)
		if p, e, ok := r.Next(); !ok || e != api.ErrDead || !same(p, pdu.Pdu{}) {
			t.Fatalf("Next of a dead one: %+v %v %v", p, e, ok)
		}
		for _, b := range [][]byte{nil, make([]byte, 48), make([]byte, most+1)} {
			if e := r.Feed(b); e != api.ErrDead {
				t.Fatalf("Feed of a dead one: %v", e)
			}
		}
		for _, o := range []pdu.Opts{{Most: 100}, {}} {
			if e := r.Set(o); e != api.ErrDead {
				t.Fatalf("Set of a dead one: %v", e)
			}
		}
	}
}

func shows(t *testing.T, r *pdu.Reader, left int, dead bool) {
	t.Helper()
	if r.Left() != left || r.Dead() != dead {
		t.Fatalf("%d left, dead %v; not %d, %v", r.Left(), r.Dead(), left, dead)
	}
}
