package raft

import (
	"math/bits"

	"caisson/api"
	"caisson/entries"
)

// Offer adds an entry, if it leads: its place, and what is to be sent.
func (r *Raft) Offer(kind int, cmd []byte) (int64, []api.Msg, api.Errno) {
	if r.isNone() {
		return 0, nil, api.ErrNil
	}
	p := r.asLeader()
	if p == nil || kind == api.Config && !r.mayChange() {
		return 0, nil, api.ErrState
	}
	x := api.Entry{Kind: kind, Term: r.term, Cmd: cmd}
	if !r.canOffer(x) {
		return 0, nil, api.ErrArg
	}
	log, e := r.log.With(x)
	if e != api.OK {
		return 0, nil, e
	}
	r.log = log
	at, _ := log.Top()
	if !r.counts(p) {
		return at, nil, api.OK
	}
	var l []api.Msg
	for _, to := range r.others() {
		l = append(l, r.entries(p, to)...)
	}
	return at, l, api.OK
}

// mayChange asks for an entry of its own term that is agreed on: else two leaders could each change the members in a way of which the other one knows nothing.
func (r *Raft) mayChange() bool {
	return r.log.Change() <= r.commit && r.log.Term(r.commit) == r.term
}

func (r *Raft) canOffer(x api.Entry) bool {
	if _, e := entries.Pack(x); e != api.OK {
		return false
	}
	if x.Kind != api.Config {
		return true
	}
	members := machines(x.Cmd[0])
	return members.has(r.me) && bits.OnesCount(uint(members^r.members())) == 1
}

// tickLeading begins a round.
func (r *Raft) tickLeading(p *leading) []api.Msg {
	p.round++
	if only(r.me).isMajorityOf(r.members()) {
		r.counts(p)
	}
	top, _ := r.log.Top()
	var l []api.Msg
	for _, to := range r.others() {
		l = append(l, r.beat(p, to))
		if p.next[to] <= top {
			l = append(l, r.entries(p, to)...)
		}
	}
	return l
}

// beat tells no more of what is agreed on than the other one's log is known to have: behind that its log may be another one.
func (r *Raft) beat(p *leading, to int) api.Msg {
	m := r.letter(api.Beat, to)
	m.Commit = min(r.commit, p.match[to])
	m.Round = p.round
	return m
}

// entries is what the other one is to get next; nothing, if that is below the floor: it needs an image.
func (r *Raft) entries(p *leading, to int) []api.Msg {
	next := p.next[to]
	if low, _, _ := r.log.Floor(); next <= low {
		return nil
	}
	m := r.letter(api.Add, to)
	m.At, m.AtTerm = next-1, r.log.Term(next-1)
	m.L = r.log.Slice(next, Most)
	m.Commit = r.commit
	return []api.Msg{m}
}

// counts moves commit to where a majority is, and tells whether it leads still: who is no member any more, and has that agreed on, does not.
func (r *Raft) counts(p *leading) bool {
	members := r.members()
	at := p.match
	at[r.me], _ = r.log.Top()
	// Terms do not fall: if the greatest place has an elder one, so have all below it.
	if n := reached(members, at); n > r.commit && r.log.Term(n) == r.term {
		r.commit = n
	}
	if members.has(r.me) || r.commit < r.log.Change() {
		return true
	}
	r.role = &following{leader: nobody}
	r.waited = 0
	return false
}

// sure is the greatest round that a majority of the members has heard; 0 of who is no Leader.
func (r *Raft) sure() int64 {
	p := r.asLeader()
	if p == nil {
		return 0
	}
	at := p.heard
	at[r.me] = p.round
	return reached(r.members(), at)
}
