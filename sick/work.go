package sick

import (
	"slices"

	"posser/api"
)

// atWork is a house in which things are boiled: the Boiled, and what is asked about.
type atWork struct {
	House
	boiled map[Boiling]bool
}

func (h House) work(more ...Boiling) atWork {
	boiled := map[Boiling]bool{}
	for _, b := range slices.Concat(h.Boiled, more) {
		boiled[b] = true
	}
	return atWork{House: h, boiled: boiled}
}

// carriers tells of each thing whether it carries a sickness. What is beyond the things of the house stays false, so that two of a house are the same if they are equal.
type carriers [api.MaxSickThings]bool

func (c carriers) list() []int {
	var list []int
	for thing, carries := range c {
		if carries {
			list = append(list, thing)
		}
	}
	return list
}

func (w atWork) atFirst(c course) carriers {
	var carry carriers
	for piece := range w.Table.Pieces {
		carry[piece] = slices.Contains(w.Sick, c.owners[piece])
	}
	return carry
}

func (w atWork) atLast(c course) carriers {
	carry := w.atFirst(c)
	for hour := range w.Last + 1 {
		carry = w.touched(w.clean(carry, hour), hour, c)
	}
	return carry
}

func (w atWork) clean(carry carriers, hour int) carriers {
	for thing, carries := range carry {
		carry[thing] = carries && !w.boiled[Boiling{thing, hour}]
	}
	return carry
}

func (w atWork) touched(carry carriers, hour int, c course) carriers {
	for n, t := range w.Touches {
		if c.hours[n] == hour && (carry[t.A] || carry[t.B]) {
			carry[t.A], carry[t.B] = true, true
		}
	}
	return carry
}

// caught returns the pieces that carry a sickness at last, though their owners are not sick.
func (w atWork) caught(c course) carriers {
	first, last := w.atFirst(c), w.atLast(c)
	var caught carriers
	for piece := range w.Table.Pieces {
		caught[piece] = last[piece] && !first[piece]
	}
	return caught
}

func (w atWork) catches(c course, woman int) bool {
	for _, piece := range w.caught(c).list() {
		if c.owners[piece] == woman {
			return true
		}
	}
	return false
}

func (w atWork) isSafe(c course) bool { return w.caught(c) == carriers{} }

func (w atWork) keepsSafe(truths []course) bool {
	return question{is: atWork.isSafe}.inEach(w, truths)
}

// wrongSigns returns the signs that are not right, in increasing order. It asks for a house in which nothing but the Boiled is boiled: the signs were found with them.
func (w atWork) wrongSigns(c course) []int {
	carry := w.atLast(c)
	var wrong []int
	for n, s := range w.Signs {
		if carry[s.Thing] != s.Carries {
			wrong = append(wrong, n)
		}
	}
	return wrong
}

func (w atWork) isTruth(c course) bool { return len(w.wrongSigns(c)) == 0 }
