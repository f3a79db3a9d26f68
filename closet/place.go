package closet

import (
	"iter"
	"slices"
)

// placements gives each placement in memory of its own, the lexicographically first one first.
func (c Closet) placements() iter.Seq[[]int] {
	return func(yield func([]int) bool) {
		var place []int
		var hang func() bool
		hang = func() bool {
			if len(place) == len(c.Horses) {
				return yield(slices.Clone(place))
			}
		next:
			for closet := range c.Closets {
				for _, taken := range place {
					if closet == taken {
						continue next
					}
				}
				place = append(place, closet)
				if !hang() {
					return false
				}
				place = place[:len(place)-1]
			}
			return true
		}
		hang()
	}
}

// doneIn is for a placement with these good minutes of its horses; ok is false if it is not good.
func doneIn(good []Range) (done int, ok bool) {
	for _, minutes := range good {
		if minutes.isEmpty() {
			return 0, false
		}
		done = max(done, minutes.Lo)
	}
	return done, true
}

// bestPlacement keeps the first one of those that are done as early, because placements come in lexicographic order.
func (c Closet) bestPlacement() (best []int, earliest int, found bool) {
	dry := c.dryBounds()
	for place := range c.placements() {
		done, ok := doneIn(c.goodMinutes(place, dry))
		if ok && (!found || done < earliest) {
			best, earliest, found = place, done, true
		}
	}
	return best, earliest, found
}
