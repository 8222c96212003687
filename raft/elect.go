package raft

import "caisson/api"

// asks asks the others whether they would vote for it. Its term stays as it is, so that whoever was cut off for a while does not unseat a leader.
func (r *Raft) asks() []api.Msg {
	p := &asking{would: only(r.me)}
	r.role = p
	r.waited = 0
	r.timeout = r.nextTimeout()
	if p.would.isMajorityOf(r.members()) {
		return r.runs()
	}
	return r.toOthers(api.Ask, r.term+1)
}

// runs begins a term, and asks the others for their votes.
func (r *Raft) runs() []api.Msg {
	p := &running{votes: only(r.me)}
	r.role = p
	r.term++
	r.voted = r.me
	r.waited = 0
	if p.votes.isMajorityOf(r.members()) {
		return r.leads()
	}
	return r.toOthers(api.Vote, r.term)
}

// toOthers is Ask or Vote to each of the others.
func (r *Raft) toOthers(kind int, term int64) []api.Msg {
	var l []api.Msg
	for _, to := range r.others() {
		m := r.letter(kind, to)
		m.Term = term
		m.At, m.AtTerm = r.log.Top()
		l = append(l, m)
	}
	return l
}

// leads has a Noop of its term agreed on: what was there of terms before can not be agreed on but by it.
func (r *Raft) leads() []api.Msg {
	top, _ := r.log.Top()
	p := &leading{round: 1}
	for i := range p.next {
		p.next[i] = top + 1
	}
	r.role = p
	if log, e := r.log.With(api.Entry{Kind: api.Noop, Term: r.term}); e == api.OK {
		r.log = log
	}
	if !r.counts(p) {
		return nil
	}
	var l []api.Msg
	for _, to := range r.others() {
		l = append(l, r.beat(p, to))
		l = append(l, r.entries(p, to)...)
	}
	return l
}

// bows begins the term as a follower that has neither voted nor heard who leads.
func (r *Raft) bows(term int64) {
	r.term = term
	r.voted = nobody
	r.role = &following{leader: nobody}
}

func (r *Raft) bowsIfAbove(term int64) {
	if term > r.term {
		r.bows(term)
	}
}

func (r *Raft) follows(leader int) {
	r.role = &following{leader: leader}
	r.waited = 0
	r.quiet = 0
}

// isQuiet is of who heard a leader, or began, just now: a leader may count on it, and on what it told before it stopped.
func (r *Raft) isQuiet() bool {
	return r.asLeader() == nil && r.quiet < Least
}

// isNewer tells whether the log's top is newer than the place at of that term.
func (r *Raft) isNewer(at, term int64) bool {
	top, highest := r.log.Top()
	return highest > term || highest == term && top > at
}
