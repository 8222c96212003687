package field_test

import (
	"math"
	"math/rand"
	"testing"

	"caisson/field"
)

// edges are the numbers around which going round matters.
func edges() []uint32 {
	var l []uint32
	for _, n := range []uint32{0, 1 << 31, 1 << 16, 4294967290} {
		l = append(l, n-2, n-1, n, n+1, n+2)
	}
	r := rand.New(rand.NewSource(3))
	for range 200 {
		l = append(l, r.Uint32())
	}
	return l
}

// P2.3: Less and Dist, against what the document says of them.
func TestLessAndDist(t *testing.T) {
	for _, a := range edges() {
		for _, b := range edges() {
			gap := (int64(b) - int64(a) + 1<<32) % (1 << 32)
			if got := field.Less(a, b); got != (gap >= 1 && gap <= 1<<31-1) {
				t.Fatalf("Less(%d, %d) = %v", a, b, got)
			}
			if gap >= 1<<31 {
				gap -= 1 << 32
			}
			if got := field.Dist(a, b); int64(got) != gap {
				t.Fatalf("Dist(%d, %d) = %d, not %d", a, b, got, gap)
			}
		}
	}
	if !field.Less(4294967295, 0) || field.Less(0, 4294967295) || field.Dist(0, 4294967295) != -1 {
		t.Error("the document's examples")
	}
	if field.Less(0, 1<<31) || field.Less(1<<31, 0) || !field.Less(0, 1<<31-1) || field.Less(7, 7) {
		t.Error("Less half the way round")
	}
	if field.Dist(0, 1<<31) != math.MinInt32 || field.Dist(1<<31, 0) != math.MinInt32 || field.Dist(0, 1<<31-1) != math.MaxInt32 {
		t.Error("Dist half the way round")
	}
}

// P2.6: never both are less; the distance leads from a to b; Less is Dist above 0.
func TestLessGoesWithDist(t *testing.T) {
	for _, a := range edges() {
		for _, b := range edges() {
			if field.Less(a, b) && field.Less(b, a) {
				t.Fatalf("Less(%d, %d), and the other way", a, b)
			}
			if a+uint32(field.Dist(a, b)) != b {
				t.Fatalf("Dist(%d, %d) = %d", a, b, field.Dist(a, b))
			}
			if field.Less(a, b) != (field.Dist(a, b) > 0) {
				t.Fatalf("Less(%d, %d) against Dist", a, b)
			}
		}
	}
}

// P2.3: In.
func TestIn(t *testing.T) {
	for _, c := range []struct {
		from uint32
		n    int
		x    uint32
		want bool
	}{
		{4294967290, 10, 3, true}, {4294967290, 10, 4, false}, {4294967290, 10, 4294967290, true}, {4294967290, 10, 4294967289, false},
		{5, 1, 5, true}, {5, 1, 6, false}, {5, 1, 4, false}, {5, 2, 6, true},
		{5, 0, 5, false}, {5, -1, 5, false}, {5, -1, 4, false}, {5, math.MinInt, 5, false},
		{5, math.MaxInt, 4, true}, {5, 1 << 32, 4, true}, {5, 1<<32 - 1, 4, false}, {5, 1<<32 - 1, 3, true}, {5, 1<<32 + 1, 6, true},
		{0, 1 << 31, 1 << 31, false}, {0, 1<<31 + 1, 1 << 31, true},
	} {
		if got := field.In(c.from, c.n, c.x); got != c.want {
			t.Errorf("In(%d, %d, %d) = %v", c.from, c.n, c.x, got)
		}
	}
	for _, from := range edges() {
		for gap := range uint32(40) {
			if field.In(from, 20, from+gap) != (gap < 20) {
				t.Errorf("In(%d, 20, %d)", from, from+gap)
			}
		}
	}
}
