package copper

import (
	"iter"
	"slices"
)

func (c Copper) withCoal(coal []int) Copper {
	c.Coal = coal
	return c
}

// allCoal gives the coal that can be put on, the lexicographically first one first.
func (c Copper) allCoal() iter.Seq[byHour] {
	var shovels []Range
	for range c.hours() {
		shovels = append(shovels, Range{0, c.Shovels})
	}
	return choices(shovels)
}

// sureCoal has all coal that is sure. With more coal no hour has fewer hot buckets, so that coal is tried in the truths only if no coal with a shovel less is sure; that one has been tried before it, because it is lexicographically before it.
func (c Copper) sureCoal() map[byHour]bool {
	truths := slices.Collect(c.truths())
	sure := map[byHour]bool{}
	for coal := range c.allCoal() {
		if hasLess(sure, coal) || c.withCoal(c.listOf(coal)).areAlwaysKept(slices.Values(truths)) {
			sure[coal] = true
		}
	}
	return sure
}

// hasLess reports whether coal with a shovel less in some hour is sure. Less than no shovels never is.
func hasLess(sure map[byHour]bool, coal byHour) bool {
	for hour := range coal {
		less := coal
		less[hour]--
		if sure[less] {
			return true
		}
	}
	return false
}

// leastCoal tries fewer shovels first, and those of as many in their order, so that the first coal that is sure is the least.
func (c Copper) leastCoal() (least byHour, ok bool) {
	sure := c.sureCoal()
search:
	for many := range c.Shovels*c.hours() + 1 {
		for coal := range c.allCoal() {
			if sure[coal] && sum(coal[:]) == many {
				least, ok = coal, true
				break search
			}
		}
	}
	return least, ok
}

func sum(list []int) int {
	total := 0
	for _, n := range list {
		total += n
	}
	return total
}
