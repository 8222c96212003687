package raft

import (
	"slices"

	"caisson/api"
	"caisson/entries"
)

// mostPart leaves room for what a message has beside its data.
const mostPart = api.MaxBytes - 100

// Floor lets the log begin at a place that is agreed on.
func (r *Raft) Floor(at int64) api.Errno {
	if r.isNone() {
		return api.ErrNil
	}
	if low, _, _ := r.log.Floor(); at < low || at > r.commit {
		return api.ErrArg
	}
	log, e := r.log.Over(at)
	if e == api.OK {
		r.log = log
	}
	return e
}

// Lacking is who needs an image, rising: what it is to get next is below the floor.
func (r *Raft) Lacking() []int {
	if r.isNone() {
		return nil
	}
	p := r.asLeader()
	if p == nil {
		return nil
	}
	var l []int
	low, _, _ := r.log.Floor()
	for _, i := range r.others() {
		if p.next[i] <= low {
			l = append(l, i)
		}
	}
	return l
}

// Part is the message with a part of the image that stands for the floor.
func (r *Raft) Part(to int, p []byte) (api.Msg, api.Errno) {
	if r.isNone() {
		return api.Msg{}, api.ErrNil
	}
	if r.asLeader() == nil {
		return api.Msg{}, api.ErrState
	}
	if !r.isOther(to) {
		return api.Msg{}, api.ErrArg
	}
	if len(p) > mostPart {
		return api.Msg{}, api.ErrSize
	}
	at, term, members := r.log.Floor()
	m := r.letter(api.Part, to)
	m.At, m.AtTerm, m.Commit, m.Data = at, term, int64(members), slices.Clone(p)
	return m, api.OK
}

// Parts is the parts that came; they wait no more.
func (r *Raft) Parts() []api.Msg {
	if r.isNone() {
		return nil
	}
	l := r.parts
	r.parts = nil
	return l
}

// Settle is of an image that came whole, with m as one of its parts: the log begins there, and what is to be sent.
func (r *Raft) Settle(m api.Msg) ([]api.Msg, api.Errno) {
	if r.isNone() {
		return nil, api.ErrNil
	}
	if r.asLeader() != nil {
		return nil, api.ErrState
	}
	if !r.canSettle(m) {
		return nil, api.ErrArg
	}
	log, e := r.logFrom(m)
	if e != api.OK {
		return nil, e
	}
	r.log = log
	r.commit = m.At
	if m.Term != r.term {
		return nil, api.OK
	}
	return r.tells(m, api.AddTold, true, m.At, 0), api.OK
}

func (r *Raft) canSettle(m api.Msg) bool {
	return m.Kind == api.Part && m.To == r.me && r.isOther(m.From) && m.Term >= 1 && m.Term <= r.term &&
		m.At > r.commit && m.At <= api.MaxTicks && m.AtTerm >= 1 && m.AtTerm <= m.Term && m.Commit >= 1 && m.Commit < 1<<api.MaxNodes
}

// logFrom keeps what stands above the image, if the log has its last place: a leader may have counted on it.
func (r *Raft) logFrom(m api.Msg) (*entries.Log, api.Errno) {
	if r.log.Term(m.At) == m.AtTerm {
		return r.log.Over(m.At)
	}
	return entries.New(m.At, m.AtTerm, int(m.Commit))
}

// clone keeps no list of m.
func clone(m api.Msg) api.Msg {
	m.Data = slices.Clone(m.Data)
	m.L = slices.Clone(m.L)
	for i := range m.L {
		m.L[i].Cmd = slices.Clone(m.L[i].Cmd)
	}
	return m
}
