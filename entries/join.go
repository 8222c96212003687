package entries

import "caisson/api"

// Joined is what comes of entries that are joined to a log: another one, up to where it has them, from where on it is not as it was; or where to go back to.
type Joined struct {
	Log  *Log
	Yes  bool
	End  int64
	From int64
	Back int64
}

// Join puts the entries of l behind the place at of that term, and keeps those that stand there already.
func (g *Log) Join(at, term int64, l []api.Entry) Joined {
	if g == nil {
		return Joined{}
	}
	if !g.meets(at, term, len(l)) {
		return Joined{Back: g.back(at)}
	}
	end := at + int64(len(l))
	from := max(at, g.floor.at) + 1
	for from <= end && g.holds(from, l[from-at-1].Term) {
		from++
	}
	if from > end {
		return Joined{Log: g, Yes: true, End: end}
	}
	log, e := g.replacing(from, l[from-at-1:])
	if e != api.OK {
		return Joined{Back: from - 1}
	}
	return Joined{Log: log, Yes: true, End: end, From: from}
}

// meets tells whether count entries behind the place at can be joined. Below the floor all is agreed on, and no term is there to be held against.
func (g *Log) meets(at, term int64, count int) bool {
	if at < g.floor.at {
		return at > g.floor.at-int64(count)
	}
	return g.holds(at, term)
}

// holds asks for the part, as a term of -1 would be that of a place that is not there.
func (g *Log) holds(n, term int64) bool {
	p := g.part(n)
	return p != nil && p.itsTerm() == term
}

// back is the place to go back to, where the place at does not meet: past a whole run, so that a log that is far off is found in few steps.
func (g *Log) back(at int64) int64 {
	if top, _ := g.Top(); at > top {
		return top
	}
	for ; at > g.floor.at; at-- {
		if g.begins(at) {
			return at - 1
		}
	}
	return g.floor.at
}

// replacing is the log with l in the place of all from n on.
func (g *Log) replacing(n int64, l []api.Entry) (*Log, api.Errno) {
	below, e := g.Upto(n - 1)
	if e != api.OK {
		return nil, e
	}
	return below.With(l...)
}
