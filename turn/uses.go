package turn

import "slices"

func (w atWork) jumped(use int) bool {
	woman, before := w.Used[use], w.Used[:use]
	if !w.held.has(woman) {
		return true
	}
	earlier := inOrder(w.held[:w.held.turnOf(woman)])
	return !each(earlier, func(other int) bool { return slices.Contains(before, other) })
}

func (w atWork) manyJumped() int {
	many := 0
	for use := range w.Used {
		if w.jumped(use) {
			many++
		}
	}
	return many
}

func (w atWork) next() int {
	for _, woman := range inOrder(w.held[:]) {
		if !slices.Contains(w.Used, woman) {
			return woman
		}
	}
	return None
}

// isShort reports whether a woman who used the mangle holds no turn.
func (w atWork) isShort() bool {
search:
	for _, woman := range w.Used {
		for turn := range len(w.Turns) {
			if w.held[turn] == woman {
				continue search
			}
		}
		return true
	}
	return false
}

// swapsBack asks for women who all hold a turn. Nobody jumped if those who used the mangle, in their order, hold the first of the turns that are held, and each swap brings the next of them to hers for good. Fewer cannot do: women who have each other's turns in a ring need one swap fewer than they are, because the last of them is at her turn once the others are, and all other ones need a swap each.
func (w atWork) swapsBack() []Swap {
	var swaps []Swap
	queue := inOrder(w.held[:])
	for n, woman := range w.Used {
		if other := queue[n]; other != woman {
			swaps = append(swaps, Swap{woman, other})
			queue[slices.Index(queue, woman)] = other
			queue[n] = woman
		}
	}
	return swaps
}

// areBack executes the swaps like entries that come after all others.
func (w atWork) areBack(swaps []Swap) bool {
	for _, s := range swaps {
		e := Entry{Swapped, s.A, s.B}
		if !w.isEntry(e) || !w.do(e) {
			return false
		}
	}
	return w.manyJumped() == 0
}
