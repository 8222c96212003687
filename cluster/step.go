package cluster

import (
	"caisson/api"
	"caisson/node"
)

// mostLetters is how many letters arrive in a round.
const mostLetters = 2000

// step does a step: what initiators get in it.
func (p *parts) step(e api.Event) []Told {
	switch e.Kind {
	case api.EvBytes:
		return p.post(e.Node, p.node(e.Node).Bytes(e.N, e.B))
	case api.EvDeliver:
		return p.deliver(p.letter(e.N))
	case api.EvDrop:
		p.Drop(p.letter(e.N))
	case api.EvDouble:
		p.Double(p.letter(e.N))
	case api.EvTick:
		return p.tick(e.Node)
	case api.EvDraw:
		p.node(e.Node).Draw(e.N)
	case api.EvCut:
		p.Cut(e.N)
	case api.EvFail:
		if p.has(e.Node) {
			p.disks[e.Node].Fail()
		}
	case api.EvCrash:
		p.crashAll(e.N, e.L)
	case api.EvRound:
		return p.round()
	}
	return nil
}

// letter is the number of a letter on its way that n stands for; where none is, none has that number.
func (p *parts) letter(n int) int {
	if p.Len() == 0 {
		return 0
	}
	return (n%p.Len() + p.Len()) % p.Len()
}

// deliver lets the letter number k arrive.
func (p *parts) deliver(k int) []Told {
	x, e := p.Take(k)
	if e != api.OK {
		return nil
	}
	return p.post(x.To, p.node(x.To).Handle(x.From, x.Data))
}

// tick lets the clock of the machine i tick, if it may, and the machine with it.
func (p *parts) tick(i int) []Told {
	if p.Tick(i) != api.OK {
		return nil
	}
	return p.post(i, p.node(i).Tick())
}

// crashAll is of the machines whose bits mask has.
func (p *parts) crashAll(mask int, kept []int) {
	for i := range p.disks {
		if mask>>i&1 == 1 {
			p.crash(i, kept)
		}
	}
}

// round lets all clocks tick, and then letters arrive.
func (p *parts) round() []Told {
	var l []Told
	for i := range p.disks {
		l = append(l, p.tick(i)...)
	}
	for n := 0; n < mostLetters && p.Len() > 0; n++ {
		l = append(l, p.deliver(0)...)
	}
	return l
}

// post sends what the machine i has to send, and is what initiators get of it. What the world does not take is lost.
func (p *parts) post(i int, out []node.Out) []Told {
	var l []Told
	for _, x := range out {
		if x.Conn {
			l = append(l, Told{Node: i, Conn: x.To, Data: x.Data})
		} else {
			p.Send(i, x.To, x.Data)
		}
	}
	return l
}
