package field

// Less tells whether a comes ahead of b, going round: whether b less a is from 1 to 2^31 - 1.
func Less(a, b uint32) bool { return Dist(a, b) > 0 }

// Dist is b less a, going round: from -2^31 to 2^31 - 1.
func Dist(a, b uint32) int { return int(int32(b - a)) }

// In tells whether x is among the n numbers from from on, going round.
func In(from uint32, n int, x uint32) bool {
	return n > 0 && uint64(x-from) < uint64(n)
}
