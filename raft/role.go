package raft

import (
	"math/bits"

	"caisson/api"
)

// role is what a replica has for as long as it is of that role: whoever turns to another one forgets it.
type role interface{ number() int }

// following is of who follows a leader, or knows none.
type following struct{ leader int }

// asking is of who has asked who would vote for it.
type asking struct{ would machines }

// running is of who asks for votes.
type running struct{ votes machines }

// leading is of who leads; what it knows of the machines stands at their numbers.
type leading struct {
	round int64
	next  [api.MaxNodes]int64 // the place that is to be sent next
	match [api.MaxNodes]int64 // up to where the log is known to be the same
	heard [api.MaxNodes]int64 // the greatest round that was told
}

func (*following) number() int { return api.Follower }
func (*asking) number() int    { return api.Asker }
func (*running) number() int   { return api.Candidate }
func (*leading) number() int   { return api.Leader }

// machines are those whose bits are 1.
type machines int

func only(i int) machines { return 1 << i }

func (s machines) has(i int) bool { return s&only(i) != 0 }

func (s machines) isMajorityOf(members machines) bool {
	return 2*bits.OnesCount(uint(s&members)) > bits.OnesCount(uint(members))
}

// reached is the greatest number that a majority of the members is at or above, each of them being where at says; 0, if there is none.
func reached(members machines, at [api.MaxNodes]int64) int64 {
	var greatest int64
	for _, n := range at {
		if atLeast(at, n).isMajorityOf(members) {
			greatest = max(greatest, n)
		}
	}
	return greatest
}

func atLeast(at [api.MaxNodes]int64, n int64) machines {
	var s machines
	for i := range at {
		if at[i] >= n {
			s |= only(i)
		}
	}
	return s
}
