package soap

import (
	"cmp"
	"slices"
)

func (w atWork) wrongSayings() []int {
	var wrong []int
	for n, x := range w.Sayings {
		if !w.isRight(x) {
			wrong = append(wrong, n)
		}
	}
	return wrong
}

func (w atWork) rightBeforeWrong() int {
	if wrong := w.wrongSayings(); len(wrong) > 0 {
		return wrong[0]
	}
	return len(w.Sayings)
}

// rightTogether returns how many sayings, from the saying 0 on, are right with some ounces: the one after them is the first wrong one.
func (s Slate) rightTogether() int {
	most := 0
	for ounces := range s.ounces() {
		most = max(most, s.work(ounces).rightBeforeWrong())
	}
	return most
}

// smallestSet is the smallest one of the lists of all sayings that are wrong with some ounces: sayings that can be left out are those of such a list, and perhaps more.
func (s Slate) smallestSet() []int {
	var sets [][]int
	for ounces := range s.ounces() {
		sets = append(sets, s.work(ounces).wrongSayings())
	}
	return slices.MinFunc(sets, compareSets)
}

func compareSets(one, other []int) int {
	return cmp.Or(cmp.Compare(len(one), len(other)), slices.Compare(one, other))
}
