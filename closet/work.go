package closet

import (
	"iter"

	"posser/api"
)

// dryNumbers has the dry number of each horse. What is beyond the horses of the closets stays 0, so that two of the same closets are equal if those of their horses are.
type dryNumbers [api.MaxClosetHorses]int

func (c Closet) dryOf(list []int) (dryNumbers, bool) {
	if len(list) != len(c.Horses) {
		return dryNumbers{}, false
	}
	var dry dryNumbers
	for horse, n := range list {
		if !c.Horses[horse].Dry.has(n) {
			return dryNumbers{}, false
		}
		dry[horse] = n
	}
	return dry, true
}

// allDry gives dry numbers that are no truth, too.
func (c Closet) allDry() iter.Seq[dryNumbers] {
	return func(yield func(dryNumbers) bool) {
		var dry dryNumbers
		var choose func(horse int) bool
		choose = func(horse int) bool {
			if horse == len(c.Horses) {
				return yield(dry)
			}
			for n := c.Horses[horse].Dry.Lo; n <= c.Horses[horse].Dry.Hi; n++ {
				dry[horse] = n
				if !choose(horse + 1) {
					return false
				}
			}
			return true
		}
		choose(0)
	}
}

// atWork is closets in which the horses hang as a placement says. The delays come from the linen in the next closets, and are the same whatever the dry numbers are.
type atWork struct {
	Closet
	delays [api.MaxClosetHorses]int
}

func (c Closet) work(place []int) atWork {
	w := atWork{Closet: c}
	for horse := range len(c.Horses) {
		for other, h := range c.Horses {
			if areNext(place[horse], place[other]) {
				w.delays[horse] += h.Wet
			}
		}
	}
	return w
}

func areNext(one, other int) bool { return one-other == 1 || other-one == 1 }

func (w atWork) dryMinute(horse int, dry dryNumbers) int { return dry[horse] + w.delays[horse] }

func (w atWork) isRight(horse, minute int, dry dryNumbers) bool {
	from := w.dryMinute(horse, dry)
	return Range{from, from + w.Horses[horse].Grace}.has(minute)
}

// wrongLooks returns the looks that are not right, in increasing order.
func (w atWork) wrongLooks(dry dryNumbers) []int {
	var wrong []int
	for n, l := range w.Looks {
		if isDry := w.dryMinute(l.Horse, dry) <= l.Minute; isDry != l.Dry {
			wrong = append(wrong, n)
		}
	}
	return wrong
}

// truths works with Hung whichever placement is asked about: the looks were made with it.
func (c Closet) truths() iter.Seq[dryNumbers] {
	hung := c.work(c.Hung)
	return func(yield func(dryNumbers) bool) {
		for dry := range c.allDry() {
			if len(hung.wrongLooks(dry)) == 0 && !yield(dry) {
				return
			}
		}
	}
}

func (c Closet) hasTruth() bool {
	for range c.truths() {
		return true
	}
	return false
}
