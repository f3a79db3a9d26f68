package sick

import (
	"cmp"
	"slices"
)

// rightTogether returns how many signs, from the sign 0 on, are right in some course: the one after them is the first wrong one.
func (h House) rightTogether() int {
	w := h.work()
	most := 0
	for c := range h.courses() {
		most = max(most, w.rightBeforeWrong(c))
	}
	return most
}

func (w atWork) rightBeforeWrong(c course) int {
	if wrong := w.wrongSigns(c); len(wrong) > 0 {
		return wrong[0]
	}
	return len(w.Signs)
}

// smallestSet compares lists of all signs that are wrong in some course, and no others: signs that can be left out are those of such a list, and perhaps more, so that the smallest set is one of them.
func (h House) smallestSet() []int {
	w := h.work()
	smallest := Range{0, len(h.Signs) - 1}.numbers()
	for c := range h.courses() {
		if wrong := w.wrongSigns(c); isSmaller(wrong, smallest) {
			smallest = wrong
		}
	}
	return smallest
}

func isSmaller(one, other []int) bool {
	return cmp.Or(cmp.Compare(len(one), len(other)), slices.Compare(one, other)) < 0
}
