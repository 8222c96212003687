package dedup

import (
	"cmp"
	"slices"
)

// numbered is what stands in a list.
type numbered interface{ number() int64 }

// list is things that rise by their numbers, no two with one number.
type list[T numbered] struct{ rising []T }

func (l *list[T]) size() int { return len(l.rising) }

// from is the first one whose number is not below n, or the zero one.
func (l *list[T]) from(n int64) T {
	if i := l.slot(n); i < len(l.rising) {
		return l.rising[i]
	}
	var none T
	return none
}

// last is of a list that is not empty.
func (l *list[T]) last() T { return l.rising[len(l.rising)-1] }

func (l *list[T]) put(x T) { l.rising = slices.Insert(l.rising, l.slot(x.number()), x) }

// takeFirst is of a list that is not empty.
func (l *list[T]) takeFirst() T {
	first := l.rising[0]
	l.rising = slices.Delete(l.rising, 0, 1)
	return first
}

func (l *list[T]) copied() list[T] { return list[T]{slices.Clone(l.rising)} }

// slot is where a thing with the number n stands, or would stand.
func (l *list[T]) slot(n int64) int {
	i, _ := slices.BinarySearchFunc(l.rising, n, func(x T, n int64) int { return cmp.Compare(x.number(), n) })
	return i
}
