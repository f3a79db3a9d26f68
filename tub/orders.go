package tub

import (
	"iter"
	"maps"
	"slices"
)

// ending is that of an order of so many women.
type ending struct{ women, minute int }

func (e ending) with(done int) ending { return ending{e.women + 1, max(e.minute, done)} }

func (w atWork) endingOf(order []int) ending {
	e := ending{minute: w.Open}
	_, done := w.play(order)
	for _, minute := range done {
		e = e.with(minute)
	}
	return e
}

// orders gives orders with their endings in lexicographic order, among them the first one of each ending. What it gives is written over by the next one.
func (w atWork) orders() iter.Seq2[[]int, ending] {
	return func(yield func([]int, ending) bool) {
		var order []int
		var extend func(free minutes, e ending) bool
		extend = func(free minutes, e ending) bool {
			if !yield(order, e) {
				return false
			}
			for _, woman := range w.next(free, order) {
				_, done, after := w.give(free, woman)
				order = append(order, woman)
				if !extend(after, e.with(done)) {
					return false
				}
				order = order[:len(order)-1]
			}
			return true
		}
		extend(w.free, ending{minute: w.Open})
	}
}

// next returns the women who can come next, in increasing order; of those with whom the tubs are free in the same minutes then only the first one, because the others wash for as long: with her in their place, and they in hers, an order ends in the same minute, and is before it.
func (w atWork) next(free minutes, order []int) []int {
	next := map[minutes]int{}
	for woman := range w.Queue {
		_, _, after := w.give(free, woman)
		if _, is := next[after]; !is && !slices.Contains(order, woman) {
			next[after] = woman
		}
	}
	return slices.Sorted(maps.Values(next))
}

func (w atWork) smallestEnding() ending {
	smallest := w.endingOf(w.queued())
	for _, e := range w.orders() {
		if e.women == smallest.women {
			smallest.minute = minimum(smallest.minute, e.minute)
		}
	}
	return smallest
}

func (w atWork) bestOrder() (order []int, minute int) {
	smallest := w.smallestEnding()
	for order, e := range w.orders() {
		if e == smallest {
			return slices.Clone(order), e.minute
		}
	}
	return nil, w.Open
}

// mostWomen keeps the first one of the sure orders of a length, because they come in lexicographic order.
func (w atWork) mostWomen() []int {
	var most []int
	for order, e := range w.orders() {
		if e.minute <= w.Closing && e.women > len(most) {
			most = slices.Clone(order)
		}
	}
	return most
}
