package closet

import (
	"cmp"
	"slices"
)

// rightTogether returns how many looks, from the look 0 on, are right with some dry numbers: the one after them is the first wrong one.
func (c Closet) rightTogether() int {
	hung := c.work(c.Hung)
	most := 0
	for dry := range c.allDry() {
		most = max(most, hung.rightBeforeWrong(dry))
	}
	return most
}

func (w atWork) rightBeforeWrong(dry dryNumbers) int {
	if wrong := w.wrongLooks(dry); len(wrong) > 0 {
		return wrong[0]
	}
	return len(w.Looks)
}

// smallestSet compares lists of all looks that are wrong with some dry numbers, and no others: looks that can be left out are those of such a list, and perhaps more, so that the smallest set is one of them.
func (c Closet) smallestSet() []int {
	hung := c.work(c.Hung)
	smallest := c.allLooks()
	for dry := range c.allDry() {
		wrong := hung.wrongLooks(dry)
		if isSmaller(wrong, smallest) {
			smallest = wrong
		}
	}
	return smallest
}

func (c Closet) allLooks() []int {
	var looks []int
	for n := range c.Looks {
		looks = append(looks, n)
	}
	return looks
}

func isSmaller(one, other []int) bool {
	return cmp.Or(cmp.Compare(len(one), len(other)), slices.Compare(one, other)) < 0
}
