package soap

import (
	"iter"
	"maps"
	"slices"
)

// women is a set of them, with a bit for each.
type women uint

func only(woman int) women { return 1 << woman }

// first has the one with the smallest number alone.
func (s women) first() women { return s & -s }

func (s women) have(part women) bool { return part&^s == 0 }

// some women are owed so much together.
type some struct {
	women women
	owed  int
}

func (s some) and(woman, owed int) some { return some{s.women | only(woman), s.owed + owed} }

// gatherings has increasing lists of some women. They are a group if they are found with 0.
type gatherings map[some][]int

// gather returns all parts of the women who are not owed 0 alone, and the whole of them.
func (w atWork) gather() (all gatherings, whole women) {
	all = gatherings{{}: nil}
	for woman := range w.Women {
		owed := w.owed[woman]
		if owed == 0 {
			continue
		}
		whole |= only(woman)
		for s, list := range maps.Clone(all) {
			all[s.and(woman, owed)] = append(slices.Clone(list), woman)
		}
	}
	return all, whole
}

// divisions gives each way in which the women are in groups that are apart: the first one of those who are left is in one of their groups, whichever. What it gives is written over by the next one.
func (g gatherings) divisions(whole women) iter.Seq[[][]int] {
	return func(yield func([][]int) bool) {
		var groups [][]int
		var divide func(left women) bool
		divide = func(left women) bool {
			if left == 0 {
				return yield(groups)
			}
			for part := range left + 1 {
				group, is := g[some{women: part}]
				if !is || !left.have(part) || !part.have(left.first()) {
					continue
				}
				groups = append(groups, group)
				if !divide(left &^ part) {
					return false
				}
				groups = groups[:len(groups)-1]
			}
			return true
		}
		divide(whole)
	}
}

// mostGroups tries more groups first. Each has two women at least, because nobody in it is owed 0 alone.
func (w atWork) mostGroups() [][]int {
	all, whole := w.gather()
	var most [][]int
search:
	for many := w.Women / 2; many > 0; many-- {
		for groups := range all.divisions(whole) {
			if len(groups) == many {
				most = slices.Clone(groups)
				break search
			}
		}
	}
	return most
}

// payments lets who owes pay who is owed in the same group, each time so much that one of both is settled. None but a group's last payment settles both: they would be a group with those who are settled already, and who is left would be another one. So a group has one payment fewer than women, and the most groups have the fewest ones.
func (w atWork) payments() []Payment {
	var payments []Payment
	for _, group := range w.mostGroups() {
		for _, from := range group {
			for _, to := range group {
				ounces := minimum(-w.owed[from], w.owed[to])
				if ounces > 0 {
					payments = append(payments, Payment{from, to, ounces})
					w.owed = w.owed.after(from, to, ounces)
				}
			}
		}
	}
	return payments
}

func (w atWork) fewest() int { return len(w.payments()) }
