package tub

import (
	"slices"

	"posser/api"
)

// minutes has for each tub that is given out the minute from which on it is free. What is beyond them stays 0, so that two of a floor are the same if they are equal; there is room for one more tub.
type minutes [api.MaxTubTubs + 1]int

// side is an end of ranges.
type side struct {
	of func(r Range) int
}

func (r Range) low() int { return r.Lo }

func (r Range) high() int { return r.Hi }

func (s side) ends(ranges []Range) []int {
	ends := make([]int, len(ranges))
	for n, r := range ranges {
		ends[n] = s.of(r)
	}
	return ends
}

// atWork is a floor in a truth, whose tubs are numbered among those that are given out.
type atWork struct {
	Floor
	tubs   int
	free   minutes
	washes []int
}

func (f Floor) work(t Truth) atWork {
	w := atWork{Floor: f, tubs: len(t.From), washes: t.Minutes}
	copy(w.free[:], t.From)
	return w
}

// workAt takes the same side of all ranges. Each woman is done earliest in the truth of the least numbers, and latest in that of the greatest ones: with a greater number no tub that somebody waits for is free earlier.
func (f Floor) workAt(s side, from []Range) atWork {
	return f.work(Truth{From: s.ends(from), Minutes: s.ends(f.Queue)})
}

// withOneMore gives the additional tub the greatest number.
func (w atWork) withOneMore() atWork {
	w.free[w.tubs] = w.Open
	w.tubs++
	return w
}

// give returns the tub that the woman gets, the minute in which she is done, and from when on the tubs are free then.
func (w atWork) give(free minutes, woman int) (tub, done int, after minutes) {
	tubs := free[:w.tubs]
	first := minimum(tubs[0], tubs[1:]...)
	tub, done = slices.Index(tubs, first), first+w.washes[woman]
	after = free
	after[tub] = done
	return tub, done, after
}

func (w atWork) play(order []int) (tubs, done []int) {
	free := w.free
	tubs, done = make([]int, len(order)), make([]int, len(order))
	for n, woman := range order {
		tubs[n], done[n], free = w.give(free, woman)
	}
	return tubs, done
}

// inTime returns how many women of the order come before the first one who is late. She is late if no tub lets her be done by Closing: she gets the one that is free earliest.
func (w atWork) inTime(order []int) int {
	free := w.free
search:
	for n, woman := range order {
		_, _, after := w.give(free, woman)
		for _, from := range free[:w.tubs] {
			if from+w.washes[woman] <= w.Closing {
				free = after
				continue search
			}
		}
		return n
	}
	return len(order)
}

// minimum has its first number apart because of no numbers there is no smallest one.
func minimum(first int, more ...int) int {
	for _, n := range more {
		first = min(first, n)
	}
	return first
}
