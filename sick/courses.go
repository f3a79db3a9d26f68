package sick

import (
	"iter"

	"posser/api"
	"posser/bundle"
)

// course is a Course that is copied whole. What is beyond the pieces and the touches of the house stays 0.
type course struct {
	owners [api.MaxBundlePieces]int
	hours  [api.MaxSickTouches]int
}

// newCourse asks for lists that are a Course of the house.
func newCourse(owners, hours []int) course {
	var c course
	copy(c.owners[:], owners)
	copy(c.hours[:], hours)
	return c
}

// courses gives those that are no truth, too.
func (h House) courses() iter.Seq[course] {
	return func(yield func(course) bool) {
		for owners := range h.allOwners() {
			for hours := range h.allHours() {
				if !yield(newCourse(owners, hours)) {
					return
				}
			}
		}
	}
}

// allOwners gives the truths of the Table. They are looked for among those whom each piece can have: package bundle does not give them.
func (h House) allOwners() iter.Seq[[]int] {
	whose, _ := bundle.Whose(h.Table) // no error: the house is valid
	return func(yield func([]int) bool) {
		for owners := range oneOfEach(whose) {
			if bundle.ProveTruth(h.Table, owners) && !yield(owners) {
				return
			}
		}
	}
}

func (h House) allHours() iter.Seq[[]int] {
	hours := make([][]int, len(h.Touches))
	for n, t := range h.Touches {
		hours[n] = t.Hour.numbers()
	}
	return oneOfEach(hours)
}

// oneOfEach gives each choice of one number of each list, the lexicographically first one first if the lists rise. What it gives is written over by the next one.
func oneOfEach(lists [][]int) iter.Seq[[]int] {
	return func(yield func([]int) bool) {
		chosen := make([]int, len(lists))
		var choose func(n int) bool
		choose = func(n int) bool {
			if n == len(lists) {
				return yield(chosen)
			}
			for _, number := range lists[n] {
				chosen[n] = number
				if !choose(n + 1) {
					return false
				}
			}
			return true
		}
		choose(0)
	}
}

func (h House) truths() []course {
	w := h.work()
	var truths []course
	for c := range h.courses() {
		if w.isTruth(c) {
			truths = append(truths, c)
		}
	}
	return truths
}

// question is what is asked of a course.
type question struct {
	is func(w atWork, c course) bool
}

func (q question) inEach(w atWork, truths []course) bool {
	for _, c := range truths {
		if !q.is(w, c) {
			return false
		}
	}
	return true
}

func (q question) inSome(w atWork, truths []course) bool {
	for _, c := range truths {
		if q.is(w, c) {
			return true
		}
	}
	return false
}

// verdict asks for some truths: without any all would be so both always and never.
func (q question) verdict(w atWork, truths []course) int {
	switch {
	case q.inEach(w, truths):
		return Always
	case !q.inSome(w, truths):
		return Never
	}
	return Perhaps
}
