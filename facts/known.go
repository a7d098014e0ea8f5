package facts

import (
	"cmp"
	"iter"
	"slices"
)

// place is where a fact stands: facts of one kind have one there, at most.
type place struct {
	key int
	day int
}

// fact is what is known at a place.
type fact[T any] struct {
	place
	what T
}

// known is all that is known of a kind.
type known[T any] map[place]T

// find is what is known at a place.
func (k known[T]) find(key, day int) (T, bool) {
	what, is := k[place{key: key, day: day}]
	return what, is
}

// all goes through all facts, in no order.
func (k known[T]) all() iter.Seq[fact[T]] {
	return func(yield func(fact[T]) bool) {
		for at, what := range k {
			if !yield(fact[T]{place: at, what: what}) {
				return
			}
		}
	}
}

// inOrder is all facts, by keys, then days.
func (k known[T]) inOrder() []fact[T] {
	return slices.SortedFunc(k.all(), func(a, b fact[T]) int {
		return cmp.Or(cmp.Compare(a.key, b.key), cmp.Compare(a.day, b.day))
	})
}

// told goes through all facts in order, each as it is told outside.
func told[T, X any](k known[T], as func(fact[T]) X) iter.Seq[X] {
	// Put in order at once, and not when it is gone through, so that what is told in between does not count.
	l := k.inOrder()
	return func(yield func(X) bool) {
		for _, x := range l {
			if !yield(as(x)) {
				return
			}
		}
	}
}
