package agenda

import (
	"container/heap"
	"iter"
	"maps"
	"slices"
)

// queue is items as a heap: the earliest one is the first one.
type queue struct {
	items []Item
	// places are where the items of numbers stand.
	places map[int]int
}

// newQueue is one without items.
func newQueue() *queue {
	return &queue{places: map[int]int{}}
}

// Len is how many items there are.
func (q *queue) Len() int {
	return len(q.items)
}

// Less tells whether one item is ahead of another one.
func (q *queue) Less(i, j int) bool {
	return q.items[i].compare(q.items[j]) < 0
}

// Swap puts two items in each other's place.
func (q *queue) Swap(i, j int) {
	q.items[i], q.items[j] = q.items[j], q.items[i]
	q.places[q.items[i].No] = i
	q.places[q.items[j].No] = j
}

// Push is for the heap alone: it puts an item last.
func (q *queue) Push(x any) {
	q.items = append(q.items, x.(Item))
}

// Pop is for the heap alone: it takes the last item away.
func (q *queue) Pop() any {
	last := len(q.items) - 1
	x := q.items[last]
	q.items = q.items[:last]
	return x
}

// first is the earliest item, if there is one.
func (q *queue) first() Item {
	return q.items[0]
}

// all goes through all items, in the order of the heap.
func (q *queue) all() iter.Seq[Item] {
	return slices.Values(q.items)
}

// has tells whether an item of a number is in it.
func (q *queue) has(no int) bool {
	_, is := q.places[no]
	return is
}

// add puts an item, of a number that is not in it.
func (q *queue) add(x Item) {
	// Ahead of the heap's Push, since that moves the item on by Swap.
	q.places[x.No] = len(q.items)
	heap.Push(q, x)
}

// remove takes the item of a number away that is in it.
func (q *queue) remove(no int) Item {
	x := heap.Remove(q, q.places[no]).(Item)
	delete(q.places, no)
	return x
}

// move puts the item of a number that is in it at another day.
func (q *queue) move(no, day int) {
	at := q.places[no]
	q.items[at].Day = day
	heap.Fix(q, at)
}

// copy is one of its own that is the same.
func (q *queue) copy() *queue {
	return &queue{items: slices.Clone(q.items), places: maps.Clone(q.places)}
}
