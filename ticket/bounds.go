package ticket

import "math"

// quantity is a number that a truth gives to a clock, a ticket or a tub, whichever it is asked about.
type quantity struct {
	of func(w atWork, thing int) int
}

// bounds asks for a house that has a truth: without one nothing is bounded.
func (q quantity) bounds(h House, thing int) Range {
	r := Range{math.MaxInt, math.MinInt}
	for w := range h.truths() {
		n := q.of(w, thing)
		r = Range{minimum(r.Lo, n), max(r.Hi, n)}
	}
	return r
}

// boundsOfEach asks about the things from 0 to many less 1.
func (q quantity) boundsOfEach(h House, many int) []Range {
	out := make([]Range, many)
	for thing := range many {
		out[thing] = q.bounds(h, thing)
	}
	return out
}

// verdict asks for a house that has a truth: without one all would be so both always and never.
func (h House) verdict(isSo func(atWork) bool) int {
	all, some := true, false
	for w := range h.truths() {
		so := isSo(w)
		all = all && so
		some = some || so
	}
	switch {
	case all:
		return Always
	case !some:
		return Never
	}
	return Perhaps
}

// clockError is compared as a key: how many truths have it is what a comparison of the clock can leave.
type clockError struct{ clock, off int }

// leaves counts the truths once for all clocks.
func (h House) leaves() []int {
	truths := map[clockError]int{}
	for w := range h.truths() {
		for clock := range len(h.Clocks) {
			truths[clockError{clock, w.errors[clock]}]++
		}
	}
	leaves := make([]int, len(h.Clocks))
	for key, many := range truths {
		leaves[key.clock] = max(leaves[key.clock], many)
	}
	return leaves
}

// minimum has its first number apart because of no numbers there is no smallest one.
func minimum(first int, more ...int) int {
	for _, n := range more {
		first = min(first, n)
	}
	return first
}
