package raft

import "caisson/api"

// Take lets a message come, and answers what is to be sent.
func (r *Raft) Take(m api.Msg) []api.Msg {
	if r.isNone() || m.To != r.me || !r.isOther(m.From) || !canCome(m) {
		return nil
	}
	switch m.Kind {
	case api.Ask:
		return r.takeAsk(m)
	case api.Vote:
		return r.takeVote(m)
	case api.Beat, api.Add, api.Part:
		return r.takeOfLeader(m)
	}
	return r.takeTold(m)
}

// canCome looks at what is not of the two machines.
func canCome(m api.Msg) bool {
	return m.Kind >= api.Ask && m.Kind <= api.Part && isNumber(m.Term) && (m.Term > 0 || isTold(m.Kind)) &&
		isNumber(m.At) && isNumber(m.AtTerm) && isNumber(m.Commit) && isNumber(m.Round)
}

func isTold(kind int) bool {
	return kind == api.AskTold || kind == api.VoteTold || kind == api.BeatTold || kind == api.AddTold
}

// tells is the answer to m.
func (r *Raft) tells(m api.Msg, kind int, yes bool, at, round int64) []api.Msg {
	x := r.letter(kind, m.From)
	x.Yes, x.At, x.Round = yes, at, round
	return []api.Msg{x}
}

func (r *Raft) takeAsk(m api.Msg) []api.Msg {
	yes := r.asLeader() == nil && !r.isQuiet() && m.Term > r.term && !r.isNewer(m.At, m.AtTerm)
	return r.tells(m, api.AskTold, yes, 0, m.Term)
}

func (r *Raft) takeVote(m api.Msg) []api.Msg {
	if r.isQuiet() {
		return r.tells(m, api.VoteTold, false, 0, 0)
	}
	r.bowsIfAbove(m.Term)
	yes := m.Term == r.term && (r.voted == nobody || r.voted == m.From) && !r.isNewer(m.At, m.AtTerm)
	if yes {
		r.voted = m.From
		r.waited = 0
	}
	return r.tells(m, api.VoteTold, yes, 0, 0)
}

// takeTold looks at the role: whoever asked for what is told may be of another one by now.
func (r *Raft) takeTold(m api.Msg) []api.Msg {
	if m.Term > r.term {
		r.bows(m.Term)
		return nil
	}
	switch p := r.role.(type) {
	case *asking:
		if m.Kind == api.AskTold && m.Yes && m.Round == r.term+1 {
			p.would |= only(m.From)
			if p.would.isMajorityOf(r.members()) {
				return r.runs()
			}
		}
	case *running:
		if m.Kind == api.VoteTold && m.Yes && m.Term == r.term {
			p.votes |= only(m.From)
			if p.votes.isMajorityOf(r.members()) {
				return r.leads()
			}
		}
	case *leading:
		if m.Term == r.term {
			return r.takeLeading(p, m)
		}
	}
	return nil
}

func (r *Raft) takeLeading(p *leading, m api.Msg) []api.Msg {
	switch {
	case m.Kind == api.BeatTold && m.Yes && m.Round <= p.round:
		p.heard[m.From] = max(p.heard[m.From], m.Round)
	case m.Kind == api.AddTold && m.Yes:
		return r.takeAdded(p, m)
	case m.Kind == api.AddTold:
		return r.takeNotAdded(p, m)
	}
	return nil
}

func (r *Raft) takeAdded(p *leading, m api.Msg) []api.Msg {
	top, _ := r.log.Top()
	if m.At > top {
		return nil
	}
	p.match[m.From] = max(p.match[m.From], m.At)
	p.next[m.From] = p.match[m.From] + 1
	if !r.counts(p) || p.next[m.From] > top || !r.members().has(m.From) {
		return nil
	}
	return r.entries(p, m.From)
}

func (r *Raft) takeNotAdded(p *leading, m api.Msg) []api.Msg {
	back := min(p.next[m.From]-1, m.At+1)
	p.next[m.From] = max(back, p.match[m.From]+1)
	if !r.members().has(m.From) {
		return nil
	}
	return r.entries(p, m.From)
}

// takeOfLeader is of what only a leader sends.
func (r *Raft) takeOfLeader(m api.Msg) []api.Msg {
	if m.Term < r.term {
		return r.takeLate(m)
	}
	r.bowsIfAbove(m.Term)
	if r.asLeader() != nil {
		return nil
	}
	r.follows(m.From)
	switch m.Kind {
	case api.Beat:
		return r.takeBeat(m)
	case api.Add:
		return r.takeAdd(m)
	}
	return r.takePart(m)
}

// takeLate tells a leader whose term is past of the one that is.
func (r *Raft) takeLate(m api.Msg) []api.Msg {
	switch m.Kind {
	case api.Beat:
		return r.tells(m, api.BeatTold, false, 0, m.Round)
	case api.Add:
		return r.tells(m, api.AddTold, false, 0, m.Round)
	}
	return nil
}

func (r *Raft) takeBeat(m api.Msg) []api.Msg {
	top, _ := r.log.Top()
	r.commit = max(r.commit, min(m.Commit, top))
	return r.tells(m, api.BeatTold, true, 0, m.Round)
}

func (r *Raft) takeAdd(m api.Msg) []api.Msg {
	for _, x := range m.L {
		if x.Term > m.Term {
			return r.tells(m, api.AddTold, false, r.commit, m.Round)
		}
	}
	j := r.log.Join(m.At, m.AtTerm, m.L)
	if !j.Yes {
		return r.tells(m, api.AddTold, false, j.Back, m.Round)
	}
	if j.From > 0 && j.From <= r.commit {
		return r.tells(m, api.AddTold, false, r.commit, m.Round)
	}
	r.log = j.Log
	r.commit = max(r.commit, min(m.Commit, j.End))
	return r.tells(m, api.AddTold, true, j.End, m.Round)
}

func (r *Raft) takePart(m api.Msg) []api.Msg {
	if m.At <= r.commit {
		return r.tells(m, api.AddTold, true, r.commit, 0)
	}
	if len(r.parts) < Wait {
		r.parts = append(r.parts, clone(m))
	}
	return nil
}
