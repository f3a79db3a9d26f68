package turn

import (
	"math"
	"slices"
)

// heldBy is a turn with its holder.
type heldBy struct{ turn, holder int }

// truthsWith counts the truths once for all turns and holders.
func (m Mangle) truthsWith() map[heldBy]int {
	truths := map[heldBy]int{}
	for w := range m.truths() {
		for turn := range len(m.Turns) {
			truths[heldBy{turn, w.held[turn]}]++
		}
	}
	return truths
}

func (m Mangle) canHold() [][]int {
	truths := m.truthsWith()
	women := make([][]int, len(m.Turns))
	for turn := range women {
		for woman := None; woman < m.Women; woman++ {
			if truths[heldBy{turn, woman}] > 0 {
				women[turn] = append(women[turn], woman)
			}
		}
	}
	return women
}

func (m Mangle) canBeNext() []int {
	var women []int
	for woman := None; woman < m.Women; woman++ {
		if m.verdict(func(w atWork) bool { return w.next() == woman }) != Never {
			women = append(women, woman)
		}
	}
	return women
}

// count returns in how many truths it is so, and in how many it is not.
func (m Mangle) count(is func(w atWork) bool) (so, not int) {
	for w := range m.truths() {
		if is(w) {
			so++
		} else {
			not++
		}
	}
	return so, not
}

// verdict asks for a mangle that has a truth: without one all would be so both always and never.
func (m Mangle) verdict(is func(w atWork) bool) int {
	so, not := m.count(is)
	switch {
	case not == 0:
		return Always
	case so == 0:
		return Never
	}
	return Perhaps
}

// bestTruth keeps the first one of those in which as few women jumped, because truths come in the order that the best one is chosen by.
func (m Mangle) bestTruth() (best []int, fewest int) {
	fewest = math.MaxInt
	for w := range m.truths() {
		if many := w.manyJumped(); many < fewest {
			best, fewest = w.out, many
		}
	}
	return best, fewest
}

// bestLook asks for a mangle that has entries.
func (m Mangle) bestLook() (entry, left int) {
	leaves := make([]int, len(m.Entries))
	for n := range leaves {
		so, not := m.count(func(w atWork) bool { return slices.Contains(w.out, n) })
		leaves[n] = max(so, not)
	}
	left = minimum(leaves[0], leaves[1:]...)
	return slices.Index(leaves, left), left
}

// possibleTogether returns how many entries, from the entry 0 on, are possible without any others: the one after them is the first wrong one.
func (m Mangle) possibleTogether() int {
	for n := range m.Entries {
		begun := m
		begun.Entries = m.Entries[:n+1]
		if _, ok := begun.work(nil); !ok {
			return n
		}
	}
	return len(m.Entries)
}

// smallestSet finds one because it is possible that all entries are false.
func (m Mangle) smallestSet() []int {
	for w := range m.possible(len(m.Entries)) {
		return w.out
	}
	return nil
}
