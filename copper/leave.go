package copper

import (
	"iter"
	"slices"
)

func (c Copper) withReadings(readings []Reading) Copper {
	c.Readings = readings
	return c
}

func (c Copper) without(left []int) Copper {
	var kept []Reading
	for n, r := range c.Readings {
		if !slices.Contains(left, n) {
			kept = append(kept, r)
		}
	}
	return c.withReadings(kept)
}

// smallestSet tries shorter lists first, and those of a length in their order, so that the first one that can be left out is the smallest set. It always finds one: all readings together can be left out.
func (c Copper) smallestSet() []int {
	for many := range len(c.Readings) + 1 {
		for left := range lists(many, len(c.Readings)) {
			if c.without(left).hasTruth() {
				return left
			}
		}
	}
	return nil
}

// lists gives each increasing list of that many numbers from 0 to limit less 1, the lexicographically first one first.
func lists(many, limit int) iter.Seq[[]int] {
	return func(yield func([]int) bool) {
		var chosen []int
		var choose func(from int) bool
		choose = func(from int) bool {
			if len(chosen) == many {
				return yield(slices.Clone(chosen))
			}
			for n := from; n < limit; n++ {
				chosen = append(chosen, n)
				if !choose(n + 1) {
					return false
				}
				chosen = chosen[:len(chosen)-1]
			}
			return true
		}
		choose(0)
	}
}
