package bundle

import (
	"cmp"
	"slices"
)

// rightTogether returns how many women, from the woman 0 on, counted right with some owners: the one after them is the first one whose count is wrong.
func (t Table) rightTogether() int {
	most := 0
	for owners := range t.allOwners() {
		most = max(most, t.work(owners).rightBeforeWrong())
	}
	return most
}

func (w atWork) rightBeforeWrong() int {
	if wrong := w.miscounted(); len(wrong) > 0 {
		return wrong[0]
	}
	return len(w.Women)
}

// smallestSet compares lists of all women who miscount with some owners, and no others: counts that can be left out are those of such a list, and perhaps more, so that the smallest set is one of them.
func (t Table) smallestSet() []int {
	smallest := t.allWomen()
search:
	for owners := range t.allOwners() {
		wrong := t.work(owners).miscounted()
		switch {
		case len(wrong) == 0:
			smallest = nil
			break search
		case isSmaller(wrong, smallest):
			smallest = wrong
		}
	}
	return smallest
}

func (t Table) allWomen() []int {
	var women []int
	for woman := range t.Women {
		women = append(women, woman)
	}
	return women
}

func isSmaller(one, other []int) bool {
	return cmp.Or(cmp.Compare(len(one), len(other)), slices.Compare(one, other)) < 0
}
