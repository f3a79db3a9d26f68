package turn_test

import (
	"slices"

	"posser/turn"
)

// What is here makes mangles, and says by the chapter's definitions alone what is so at them: slowly, and with nothing of the package but its types.

const none = turn.None

func list(l ...int) []int { return l }

func lists(l ...[]int) [][]int { return l }

func sold(turnNumber, woman int) turn.Entry { return turn.Entry{Kind: 0, A: turnNumber, B: woman} }

func swapped(a, b int) turn.Entry { return turn.Entry{Kind: 1, A: a, B: b} }

func given(a, b int) turn.Entry { return turn.Entry{Kind: 2, A: a, B: b} }

func swap(a, b int) turn.Swap { return turn.Swap{A: a, B: b} }

// example is the mangle of the chapter's examples with a Wrong.
func example(wrong int) turn.Mangle {
	return turn.Mangle{
		Women: 4, Turns: list(0, 1, none),
		Entries: []turn.Entry{sold(2, 2), swapped(0, 1), given(1, 3), swapped(1, 2)},
		Wrong:   wrong, Used: list(0, 3),
	}
}

// used is the mangle of the examples that these women used.
func used(wrong int, women ...int) turn.Mangle {
	m := example(wrong)
	m.Used = women
	return m
}

// small has as little of everything as is allowed.
func small() turn.Mangle { return turn.Mangle{Women: 1} }

// plain has no entries.
func plain(turns []int, women ...int) turn.Mangle {
	return turn.Mangle{Women: 6, Turns: turns, Used: women}
}

// with is a mangle of six women with these entries, which nobody used.
func with(wrong int, turns []int, l ...turn.Entry) turn.Mangle {
	return turn.Mangle{Women: 6, Turns: turns, Entries: l, Wrong: wrong}
}

// full has as much of everything as is allowed.
func full() turn.Mangle {
	m := with(8, list(3, none, 0, 5, none, 1), sold(1, 2), swapped(0, 3), given(2, 4), swapped(4, 5), sold(4, 2), swapped(1, 2), swapped(0, 5), swapped(3, 4))
	m.Used = list(5, 4, 3, 2, 1, 0)
	return m
}

// copied is the mangle in memory of its own.
func copied(m turn.Mangle) turn.Mangle {
	m.Turns, m.Entries, m.Used = slices.Clone(m.Turns), slices.Clone(m.Entries), slices.Clone(m.Used)
	return m
}

// dice throws the same numbers in each run.
type dice struct{ state uint64 }

// below returns a number from 0 to n less 1.
func (d *dice) below(n int) int {
	d.state = d.state*6364136223846793005 + 1442695040888963407
	return int(d.state>>33) % n
}

// shuffled returns the numbers from 0 to n less 1 in some order.
func (d *dice) shuffled(n int) []int {
	var out []int
	for i := range n {
		out = slices.Insert(out, d.below(i+1), i)
	}
	return out
}

// thrown is a mangle whose entries are possible; with noise some are not.
func (d *dice) thrown(noise bool) turn.Mangle {
	m := turn.Mangle{Women: 1 + d.below(6), Wrong: d.below(7) / 2}
	women := d.shuffled(m.Women)
	for range d.below(7) {
		holder := none
		if len(women) > 0 && d.below(3) > 0 {
			holder, women = women[0], women[1:]
		}
		m.Turns = append(m.Turns, holder)
	}
	held := slices.Clone(m.Turns)
	for range d.below(9) {
		all := allEntries(m)
		if !noise || d.below(3) > 0 {
			all = slices.DeleteFunc(all, func(e turn.Entry) bool { return after(held, e) == nil })
		}
		if len(all) == 0 {
			break
		}
		e := all[d.below(len(all))]
		m.Entries = append(m.Entries, e)
		if then := after(held, e); then != nil {
			held = then
		}
	}
	m.Used = d.shuffled(m.Women)[:d.below(m.Women+1)]
	if d.below(2) == 0 { // so that women who hold a turn use it, some of them in order
		m.Used = slices.DeleteFunc(held, func(woman int) bool { return woman == none })
		if len(m.Used) > 1 && d.below(2) == 0 {
			i := d.below(len(m.Used))
			m.Used[0], m.Used[i] = m.Used[i], m.Used[0]
		}
		m.Used = m.Used[:d.below(len(m.Used)+1)]
	}
	return m
}

// many returns mangles: those of the examples, small, full and plain ones, and thrown ones.
func many(n int) []turn.Mangle {
	out := []turn.Mangle{
		example(0), example(1), example(2), example(8), used(1), used(1, 2, 0, 1, 3), used(2, 3, 0), small(), full(),
		plain(nil), plain(list(5, none, 2), 2, 1), plain(list(0, 1, 2, 3, 4, 5), 1, 2, 3, 4, 5, 0), plain(list(none, none, none, none, none, none), 0),
		with(8, list(0, 1), swapped(0, 1), swapped(0, 1)), with(1, list(0, none), given(1, 2), given(0, 1), sold(1, 1)), with(0, list(none), sold(0, 0), sold(0, 0)),
	}
	d := &dice{state: 7}
	for i := range n {
		out = append(out, d.thrown(i%2 == 0))
	}
	return out
}

// truthful returns those of many mangles that have a truth.
func truthful(n int) []turn.Mangle {
	return slices.DeleteFunc(many(n), func(m turn.Mangle) bool { return len(truths(m)) == 0 })
}

// allEntries returns each entry that the mangle can have.
func allEntries(m turn.Mangle) []turn.Entry {
	var out []turn.Entry
	for b := range m.Women {
		for a := range m.Turns {
			out = append(out, sold(a, b))
		}
		for a := range m.Women {
			if a != b {
				out = append(out, swapped(a, b), given(a, b))
			}
		}
	}
	return out
}

// after returns the holders after an entry, or nil if it is not possible.
func after(held []int, e turn.Entry) []int {
	out := slices.Clone(held)
	hold := func(woman int) bool { return slices.Contains(held, woman) }
	for i, holder := range held {
		switch {
		case e.Kind == 0 && i == e.A:
			if holder != none || hold(e.B) {
				return nil
			}
			out[i] = e.B
		case e.Kind == 1 && holder == e.A, e.Kind == 2 && holder == e.A:
			if hold(e.B) != (e.Kind == 1) {
				return nil
			}
			out[i] = e.B
		case e.Kind == 1 && holder == e.B:
			out[i] = e.A
		}
	}
	if e.Kind != 0 && !hold(e.A) {
		return nil
	}
	return out
}

// played returns the holders of the false entries; ok is false if these are not possible.
func played(m turn.Mangle, out []int) (held []int, ok bool) {
	held = append([]int{}, m.Turns...)
	for i, e := range m.Entries {
		if slices.Contains(out, i) {
			continue
		}
		if held = after(held, e); held == nil {
			return nil, false
		}
	}
	return held, true
}

// sets returns all false entries: shorter lists first, and those of a length lexicographically.
func sets(m turn.Mangle) [][]int {
	var out [][]int
	for bits := range 1 << len(m.Entries) {
		l := []int{}
		for i := range m.Entries {
			if bits>>i&1 == 1 {
				l = append(l, i)
			}
		}
		out = append(out, l)
	}
	slices.SortFunc(out, func(a, b []int) int {
		if len(a) != len(b) {
			return len(a) - len(b)
		}
		return slices.Compare(a, b)
	})
	return out
}

// possible returns the false entries that are.
func possible(m turn.Mangle) [][]int {
	return slices.DeleteFunc(sets(m), func(out []int) bool { _, ok := played(m, out); return !ok })
}

// truths returns the truths of the mangle: shorter ones first, and those of a length lexicographically.
func truths(m turn.Mangle) [][]int {
	return slices.DeleteFunc(possible(m), func(out []int) bool { return len(out) > m.Wrong })
}

// heldIn returns the holders in each truth.
func heldIn(m turn.Mangle) [][]int {
	var out [][]int
	for _, set := range truths(m) {
		held, _ := played(m, set)
		out = append(out, held)
	}
	return out
}

// jumped reports whether the woman of a use did, with holders.
func jumped(m turn.Mangle, held []int, use int) bool {
	for _, holder := range held {
		switch {
		case holder == m.Used[use]:
			return false
		case holder == none:
		case !slices.Contains(m.Used[:use], holder):
			return true
		}
	}
	return true // she holds no turn
}

func manyJumped(m turn.Mangle, held []int) int {
	n := 0
	for use := range m.Used {
		if jumped(m, held, use) {
			n++
		}
	}
	return n
}

// next returns the next one, with holders.
func next(m turn.Mangle, held []int) int {
	i := slices.IndexFunc(held, func(holder int) bool { return holder != none && !slices.Contains(m.Used, holder) })
	if i < 0 {
		return none
	}
	return held[i]
}

// verdict returns in which of the lists it is so.
func verdict(all [][]int, so func(held []int) bool) int {
	n := 0
	for _, held := range all {
		if so(held) {
			n++
		}
	}
	switch n {
	case len(all):
		return turn.Always
	case 0:
		return turn.Never
	}
	return turn.Perhaps
}

// anyOf returns what the lists give, in increasing order.
func anyOf(all [][]int, what func(held []int) int) []int {
	var out []int
	for _, held := range all {
		out = append(out, what(held))
	}
	slices.Sort(out)
	return slices.Compact(out)
}

// left returns how many truths an answer about the entry leaves.
func left(m turn.Mangle, entry int) int {
	all, n := truths(m), 0
	for _, set := range all {
		if slices.Contains(set, entry) {
			n++
		}
	}
	return max(n, len(all)-n)
}

// pairs returns the swaps of two different women.
func pairs(women int) []turn.Swap {
	var out []turn.Swap
	for b := range women {
		for a := range b {
			out = append(out, swap(a, b))
		}
	}
	return out
}

// areBack reports whether the swaps are swaps back.
func areBack(m turn.Mangle, held []int, swaps []turn.Swap) bool {
	for _, s := range swaps {
		if s.A == s.B || s.A < 0 || s.B < 0 || s.A >= m.Women || s.B >= m.Women {
			return false
		}
		if held = after(held, swapped(s.A, s.B)); held == nil {
			return false
		}
	}
	return manyJumped(m, held) == 0
}

// fewestBack tries all swaps, then all two, and so on; it returns -1 if a woman who used the mangle holds no turn.
func fewestBack(m turn.Mangle, held []int) int {
	for _, woman := range m.Used {
		if !slices.Contains(held, woman) {
			return -1
		}
	}
	seen, some := map[[6]int]bool{}, [][]int{held}
	for n := 0; ; n++ {
		var more [][]int
		for _, l := range some {
			if manyJumped(m, l) == 0 {
				return n
			}
			for _, s := range pairs(m.Women) {
				then := after(l, swapped(s.A, s.B))
				var key [6]int
				copy(key[:], then)
				if then != nil && !seen[key] {
					seen[key] = true
					more = append(more, then)
				}
			}
		}
		some = more
	}
}
