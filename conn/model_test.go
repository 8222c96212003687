package conn_test

import (
	"encoding/binary"
	"slices"

	"caisson/api"
	"caisson/conn"
	"caisson/pdu"
	"caisson/sense"
	"caisson/text"
)

// modelTask is a task, as the document says it.
type modelTask struct {
	id    int64 // known from Next on
	p     pdu.Pdu
	data  []byte
	state string // "unasked", "asked", "to do", "doing"
	most  int
	came  uint32
	tag   uint32
	r2ts  uint32
}

// model is a session, as the document says it, with a window of its own.
type model struct {
	name   string
	stage  int
	agreed text.Params
	status uint32
	r      *pdu.Reader
	o      pdu.Opts
	out    []byte
	told   bool

	there    bool // the window
	expected uint32
	busy     int
	held     map[uint32]pdu.Pdu

	tasks []*modelTask
	todo  []*modelTask
	tag   uint32
	seen  map[string]int // how often which way was gone
}

func newModel(name string) *model {
	r, _ := pdu.New(pdu.Opts{Most: 8192})
	return &model{name: name, agreed: text.Default(), status: 1, r: r, o: pdu.Opts{Most: 65536}, held: map[uint32]pdu.Pdu{}, seen: map[string]int{}}
}

func (m *model) highest() uint32 { return m.expected + 32 - 1 - uint32(m.busy) }

func (m *model) put(p pdu.Pdu) {
	b, e := pdu.Put(p, m.o)
	if e != api.OK {
		panic("a letter of the model can not be put")
	}
	m.out = append(m.out, b...)
}

func (m *model) withNumbers(p pdu.Pdu) pdu.Pdu {
	p.W[2], p.W[3] = m.expected, m.highest()
	return p
}

func (m *model) withStatus(p pdu.Pdu) {
	p = m.withNumbers(p)
	p.W[1] = m.status
	m.put(p)
	m.status++
}

func (m *model) close() {
	m.stage, m.tasks, m.todo, m.held = conn.Closed, nil, nil, map[uint32]pdu.Pdu{}
}

func (m *model) reject(p pdu.Pdu, reason int, why string) {
	m.seen["reject "+why]++
	p.Data = nil
	b, _ := pdu.Put(p, pdu.Opts{Most: 48})
	m.withStatus(pdu.Pdu{Op: 63, Flags: 0x80, B2: reason, Task: 0xffffffff, Data: b})
}

func (m *model) feed(b []byte) api.Errno {
	if m.stage == conn.Closed {
		return api.ErrDead
	}
	if m.r.Feed(b) != api.OK {
		m.seen["full"]++
		m.close()
		return api.ErrFull
	}
	for m.stage != conn.Closed {
		p, e, ok := m.r.Next()
		if !ok {
			return api.OK
		}
		m.letter(p, e)
	}
	return api.OK
}

func (m *model) letter(p pdu.Pdu, e api.Errno) {
	if m.r.Dead() {
		m.seen["dead"]++
		m.close()
		return
	}
	if m.stage != conn.Full {
		if e != api.OK || p.Op != 3 {
			m.seen["no login"]++
			m.close()
			return
		}
		m.login(p)
		return
	}
	if e == api.ErrSum {
		m.reject(p, 2, "sum")
		return
	}
	if e == api.ErrForm {
		m.reject(p, 4, "form")
		return
	}
	switch p.Op {
	case 0, 1, 2, 4, 6:
		if p.Op == 0 && p.Task == 0xffffffff {
			m.seen["nop none"]++
			return
		}
		m.come(p)
	case 3:
		m.reject(p, 4, "login")
	case 5:
		m.dataOut(p)
	default:
		m.reject(p, 5, "operation")
	}
}

func (m *model) login(p pdu.Pdu) {
	first := !m.there
	if first {
		m.there, m.expected = true, p.W[1]
	}
	stage, next, on := p.Flags/4%4, p.Flags%4, p.Flags >= 128
	fail := func(code uint32) {
		m.seen["fail"]++
		r := pdu.Pdu{Op: 35, Task: p.Task}
		r.W[4] = code * 65536
		m.withStatus(r)
		m.close()
	}
	if p.B3 != 0 {
		fail(517)
		return
	}
	if first && stage == 1 {
		m.stage = 1
	}
	if !p.Now || p.Flags&64 != 0 || stage != m.stage || on && (next <= stage || next == 2) {
		fail(512)
		return
	}
	l, e := text.Get(p.Data)
	if e != api.OK {
		fail(512)
		return
	}
	answers, agreed, e := text.Talk(m.agreed, l)
	if e != api.OK {
		fail(512)
		return
	}
	if first && agreed.Initiator == "" {
		fail(519)
		return
	}
	if first && !agreed.Discovery && agreed.Target == "" {
		fail(519)
		return
	}
	if !agreed.Discovery && agreed.Target != m.name {
		fail(515)
		return
	}
	m.agreed = agreed
	r := pdu.Pdu{Op: 35, Flags: stage * 4, Lun: p.Lun, Task: p.Task}
	if on {
		r.Flags += 128 + next
	}
	if next == 3 {
		r.Lun = p.Lun/65536*65536 + 1
	}
	if stage == 1 && !m.told {
		m.told = true
		answers = append(answers, text.Pair{Key: "MaxRecvDataSegmentLength", Val: "8192"})
	}
	if b, e := text.Put(answers); e == api.OK {
		r.Data = b
	} else {
		m.seen["too many answers"]++
	}
	m.withStatus(r)
	if on {
		m.stage = next
	}
	if m.stage == 3 {
		m.seen["full feature"]++
		m.o = pdu.Opts{HeadSum: agreed.HeadSum, DataSum: agreed.DataSum, Most: 65536}
		m.r.Set(pdu.Opts{HeadSum: agreed.HeadSum, DataSum: agreed.DataSum, Most: 8192})
	}
}

func (m *model) come(p pdu.Pdu) {
	if p.Now {
		m.do(p)
		return
	}
	if at := p.W[1] - m.expected; at >= uint32(32-m.busy) {
		m.seen["out of the window"]++
		return
	}
	if _, ok := m.held[p.W[1]]; ok {
		m.seen["twice"]++
		return
	}
	m.held[p.W[1]] = p
	var turn []pdu.Pdu
	for {
		x, ok := m.held[m.expected]
		if !ok {
			break
		}
		delete(m.held, m.expected)
		turn = append(turn, x)
		m.expected++
		m.busy++
	}
	for _, x := range turn {
		if m.stage != conn.Full {
			return
		}
		m.do(x)
	}
	if len(turn) > 1 {
		m.seen["several turns"]++
	}
}

func (m *model) do(p pdu.Pdu) {
	switch p.Op {
	case 0:
		r := pdu.Pdu{Op: 32, Flags: 0x80, Lun: p.Lun, Task: p.Task, Data: p.Data}
		if len(r.Data) > m.agreed.MostOut {
			m.seen["nop cut"]++
			r.Data = r.Data[:m.agreed.MostOut]
		}
		r.W[0] = 0xffffffff
		m.withStatus(r)
	case 1:
		if m.command(p) {
			return
		}
	case 2:
		m.manage(p)
	case 4:
		m.text(p)
	case 6:
		m.seen["logout"]++
		m.withStatus(pdu.Pdu{Op: 38, Flags: 0x80, Task: p.Task})
		m.close()
	}
	if !p.Now {
		m.busy--
	}
}

func (m *model) manage(p pdu.Pdu) {
	r := pdu.Pdu{Op: 34, Flags: 0x80, Task: p.Task, B2: 5}
	if p.Flags%128 == 1 {
		r.B2 = 1
		if x := m.find(p.W[0]); x != nil {
			m.seen["abort "+x.state]++
			r.B2 = 0
			m.end(x)
		}
	}
	m.withStatus(r)
}

func (m *model) text(p pdu.Pdu) {
	l, e := text.Get(p.Data)
	if p.Flags&128 == 0 || p.Flags&64 != 0 || p.W[0] != 0xffffffff || e != api.OK {
		m.reject(p, 4, "text")
		return
	}
	var answers []text.Pair
	for _, x := range l {
		if x.Key == "SendTargets" && slices.Contains([]string{"All", "", m.name}, x.Val) {
			m.seen["targets"]++
			answers = append(answers, text.Pair{Key: "TargetName", Val: m.name})
			continue
		}
		answers = append(answers, text.Pair{Key: x.Key, Val: "NotUnderstood"})
	}
	r := pdu.Pdu{Op: 36, Flags: 0x80, Lun: p.Lun, Task: p.Task}
	r.W[0] = 0xffffffff
	r.Data, _ = text.Put(answers)
	m.withStatus(r)
}

func (m *model) find(task uint32) *modelTask {
	for _, x := range m.tasks {
		if x.p.Task == task {
			return x
		}
	}
	return nil
}

func (m *model) end(x *modelTask) {
	same := func(y *modelTask) bool { return x == y }
	m.tasks = slices.DeleteFunc(m.tasks, same)
	m.todo = slices.DeleteFunc(m.todo, same)
	if !x.p.Now {
		m.busy--
	}
}

func (m *model) command(p pdu.Pdu) bool {
	f, reads, writes, n := p.Flags&128 != 0, p.Flags&64 != 0, p.Flags&32 != 0, int64(p.W[0])
	data := int64(len(p.Data))
	if m.find(p.Task) != nil {
		m.reject(p, 7, "same task")
		return false
	}
	if data > 0 {
		if !writes {
			m.reject(p, 4, "data without writing")
			return false
		}
		if !m.agreed.Immediate {
			m.reject(p, 4, "data not immediate")
			return false
		}
		if data > int64(m.agreed.First) {
			m.reject(p, 4, "data beyond First")
			return false
		}
		if data > n {
			m.reject(p, 4, "data beyond length")
			return false
		}
	}
	if !f && !writes {
		m.reject(p, 4, "no F without writing")
		return false
	}
	if !f && m.agreed.Asked {
		m.reject(p, 4, "no F where asked")
		return false
	}
	if len(m.tasks) == 64 {
		m.seen["task full"]++
		m.withStatus(pdu.Pdu{Op: 33, Flags: 0x80, B3: 0x28, Task: p.Task})
		return false
	}
	if reads && writes || writes && n > 4096 {
		m.seen["command check"]++
		m.withStatus(pdu.Pdu{Op: 33, Flags: 0x80, B3: 2, Task: p.Task, Data: append([]byte{0, 18}, 0x70, 0, 5, 0, 0, 0, 0, 10, 0, 0, 0, 0, 0x24, 0, 0, 0, 0, 0)})
		return false
	}
	x := &modelTask{p: p, data: slices.Clone(p.Data)}
	m.tasks = append(m.tasks, x)
	if writes && !f {
		x.state, x.most = "unasked", int(min(n, int64(m.agreed.First)))
		m.seen["unasked"]++
		if len(x.data) < x.most {
			return true
		}
	}
	m.goOn(x)
	return true
}

func (m *model) goOn(x *modelTask) {
	n := int(x.p.W[0])
	if x.p.Flags&32 == 0 || len(x.data) == n {
		x.state = "to do"
		m.todo = append(m.todo, x)
		return
	}
	m.tag++
	ask := min(m.agreed.Burst, n-len(x.data))
	r := m.withNumbers(pdu.Pdu{Op: 49, Flags: 0x80, Lun: x.p.Lun, Task: x.p.Task})
	r.W[0], r.W[1], r.W[4], r.W[5], r.W[6] = m.tag, m.status, x.r2ts, uint32(len(x.data)), uint32(ask)
	m.put(r)
	x.r2ts++
	if x.r2ts > 1 {
		m.seen["second r2t"]++
	}
	x.state, x.tag, x.came, x.most = "asked", m.tag, 0, len(x.data)+ask
}

func (m *model) dataOut(p pdu.Pdu) {
	x := m.find(p.Task)
	if x == nil || x.state != "unasked" && x.state != "asked" {
		m.reject(p, 9, "data without task")
		return
	}
	after := len(x.data) + len(p.Data)
	want := uint32(0xffffffff)
	if x.state == "asked" {
		want = x.tag
	}
	switch f := p.Flags&128 != 0; {
	case p.W[0] != want:
		m.reject(p, 9, "tag")
		return
	case p.W[4] != x.came:
		m.reject(p, 9, "data's number")
		return
	case p.W[5] != uint32(len(x.data)):
		m.reject(p, 9, "data's place")
		return
	case after > x.most:
		m.reject(p, 9, "too many data")
		return
	case x.state == "asked" && f != (after == x.most):
		m.reject(p, 9, "last")
		return
	}
	x.data = append(x.data, p.Data...)
	x.came++
	m.seen["data "+x.state]++
	if p.Flags&128 != 0 || after == x.most {
		m.goOn(x)
	}
}

// next is the command that is to be done next.
func (m *model) next() (conn.Do, *modelTask) {
	if len(m.todo) == 0 {
		return conn.Do{}, nil
	}
	x := m.todo[0]
	m.todo = m.todo[1:]
	x.state = "doing"
	lun := binary.BigEndian.AppendUint64(nil, x.p.Lun)
	d := conn.Do{Lun: int(lun[1]), Data: slices.Clone(x.data)}
	lun[1] = 0
	if slices.Max(lun) > 0 {
		d.Lun = -1
	}
	for i := 3; i < 7; i++ {
		d.Cdb = binary.BigEndian.AppendUint32(d.Cdb, x.p.W[i])
	}
	return d, x
}

func (m *model) answer(x *modelTask, r api.Reply) {
	m.end(x)
	a := pdu.Pdu{Op: 33, Flags: 0x80, B3: int(uint8(r.Status)), Task: x.p.Task}
	if x.p.Flags&64 != 0 && r.Status == 0 {
		have, want := uint64(len(r.Data)), uint64(x.p.W[0])
		send := r.Data[:min(have, want)]
		for ahead := 0; ahead < len(send); {
			n := min(m.agreed.MostOut, len(send)-ahead)
			d := m.withNumbers(pdu.Pdu{Op: 37, Task: x.p.Task, Data: send[ahead : ahead+n]})
			d.W[0], d.W[4], d.W[5] = 0xffffffff, a.W[4], uint32(ahead)
			ahead += n
			if ahead == len(send) {
				d.Flags = 0x80
			}
			m.put(d)
			a.W[4]++
		}
		if a.W[4] > 1 {
			m.seen["several data-in"]++
		}
		if have > want {
			m.seen["more"]++
			a.Flags, a.W[6] = 0x84, uint32(have-want)
		}
		if have < want {
			m.seen["fewer"]++
			a.Flags, a.W[6] = 0x82, uint32(want-have)
		}
	}
	if r.Status == 2 {
		if b, e := sense.Data(r); e == api.OK {
			a.Data = append([]byte{0, 0x12}, b...)
		} else {
			m.seen["no sense"]++
		}
	}
	m.withStatus(a)
}

func (m *model) kept() int {
	if m.stage == conn.Closed {
		return 0
	}
	n := m.r.Left()
	for _, p := range m.held {
		n += len(p.Data)
	}
	for _, x := range m.tasks {
		n += len(x.data)
	}
	return n
}
