package turn

import (
	"iter"
	"slices"

	"posser/api"
)

// holders has for each turn the woman who holds it, or None. Nobody holds what is beyond the turns of the mangle.
type holders [api.MaxTurnTurns]int

func (m Mangle) firstHolders() holders {
	var h holders
	for turn := range api.MaxTurnTurns {
		h[turn] = None
	}
	copy(h[:], m.Turns)
	return h
}

func (h holders) has(woman int) bool { return slices.Contains(h[:], woman) }

// turnOf asks for a woman who holds a turn.
func (h holders) turnOf(woman int) int { return slices.Index(h[:], woman) }

func (h holders) sell(turn, woman int) holders {
	if h[turn] == None && !h.has(woman) {
		h[turn] = woman
	}
	return h
}

func (h holders) swap(one, other int) holders {
	if h.has(one) && h.has(other) {
		first, second := h.turnOf(one), h.turnOf(other)
		h[first], h[second] = other, one
	}
	return h
}

func (h holders) give(from, to int) holders {
	if h.has(from) && !h.has(to) {
		h[h.turnOf(from)] = to
	}
	return h
}

// deed is what the entries of a kind do to the holders. An entry that is not possible leaves them as they are, and each one that is possible changes them, so that the holders before and after it tell which of both it was.
type deed struct {
	do func(h holders, a, b int) holders
}

func deedOf(kind int) deed {
	deeds := [...]deed{Sold: {holders.sell}, Swapped: {holders.swap}, Given: {holders.give}}
	return deeds[kind]
}

// atWork is a mangle with false entries, and the holders after the others.
type atWork struct {
	Mangle
	out  []int
	held holders
}

// do reports whether the entry was possible.
func (w *atWork) do(e Entry) bool {
	before := w.held
	w.held = deedOf(e.Kind).do(before, e.A, e.B)
	return w.held != before
}

// work gives the mangle at work; ok is false if the false entries are not possible.
func (m Mangle) work(out []int) (w atWork, ok bool) {
	w = atWork{Mangle: m, out: out, held: m.firstHolders()}
	for n, e := range m.Entries {
		if !slices.Contains(out, n) && !w.do(e) {
			return w, false
		}
	}
	return w, true
}

// falseEntries gives all lists of at most so many entries, each in memory of its own: the shorter ones first, and those of a length in lexicographic order.
func (m Mangle) falseEntries(most int) iter.Seq[[]int] {
	return func(yield func([]int) bool) {
		var out []int
		var choose func(from, more int) bool
		choose = func(from, more int) bool {
			if more == 0 {
				return yield(slices.Clone(out))
			}
			for n := from; n < len(m.Entries); n++ {
				out = append(out, n)
				if !choose(n+1, more-1) {
					return false
				}
				out = out[:len(out)-1]
			}
			return true
		}
		for size := range minimum(most, len(m.Entries)) + 1 {
			if !choose(0, size) {
				return
			}
		}
	}
}

// possible gives what false entries that are possible leave, in the order of falseEntries.
func (m Mangle) possible(most int) iter.Seq[atWork] {
	return func(yield func(atWork) bool) {
		for out := range m.falseEntries(most) {
			if w, ok := m.work(out); ok && !yield(w) {
				return
			}
		}
	}
}

func (m Mangle) truths() iter.Seq[atWork] { return m.possible(m.Wrong) }

func (m Mangle) hasTruth() bool {
	for range m.truths() {
		return true
	}
	return false
}

// minimum has its first number apart because of no numbers there is no smallest one.
func minimum(first int, more ...int) int {
	for _, n := range more {
		first = min(first, n)
	}
	return first
}
