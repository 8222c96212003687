package lease

import "slices"

// queue is things in the order in which they came.
type queue[T any] struct{ things []T }

func (q *queue[T]) size() int { return len(q.things) }

func (q *queue[T]) add(x T) { q.things = append(q.things, x) }

func (q *queue[T]) dropFirst() { q.things = slices.Delete(q.things, 0, 1) }

// has tells whether one of them is meant.
func (q *queue[T]) has(meant func(T) bool) bool { return slices.ContainsFunc(q.things, meant) }

// last is the last one that is meant, or the zero one.
func (q *queue[T]) last(meant func(T) bool) T {
	for _, x := range slices.Backward(q.things) {
		if meant(x) {
			return x
		}
	}
	var none T
	return none
}

// take takes those away that are meant, in their order.
func (q *queue[T]) take(meant func(T) bool) []T {
	var taken, left []T
	for _, x := range q.things {
		if meant(x) {
			taken = append(taken, x)
		} else {
			left = append(left, x)
		}
	}
	q.things = left
	return taken
}
