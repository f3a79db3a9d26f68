package ticket

import (
	"iter"
	"slices"
)

func (h House) with(clips []Clip) House {
	h.Clips = clips
	return h
}

func (h House) without(left []int) House {
	var kept []Clip
	for n, c := range h.Clips {
		if !slices.Contains(left, n) {
			kept = append(kept, c)
		}
	}
	return h.with(kept)
}

// smallestSet tries shorter lists first, and those of a length in their order, so that the first one that can be left out is the smallest set. It always finds one: all clips together can be left out.
func (h House) smallestSet() []int {
	var smallest []int
search:
	for many := range len(h.Clips) + 1 {
		for left := range lists(many, len(h.Clips)) {
			if h.without(left).hasTruth() {
				smallest = left
				break search
			}
		}
	}
	return smallest
}

// lists gives each increasing list of that many numbers from 0 to limit less 1, the lexicographically first one first.
func lists(many, limit int) iter.Seq[[]int] {
	return func(yield func([]int) bool) {
		var chosen []int
		var choose func(from int) bool
		choose = func(from int) bool {
			if len(chosen) == many {
				return yield(slices.Clone(chosen))
			}
			for n := from; n < limit; n++ {
				chosen = append(chosen, n)
				if !choose(n + 1) {
					return false
				}
				chosen = chosen[:len(chosen)-1]
			}
			return true
		}
		choose(0)
	}
}
