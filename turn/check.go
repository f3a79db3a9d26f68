package turn

import (
	"slices"

	"posser/api"
)

func (m Mangle) isLong() bool {
	return m.Women > api.MaxTurnWomen || len(m.Turns) > api.MaxTurnTurns || len(m.Entries) > api.MaxTurnEntries
}

func (m Mangle) isValid() bool {
	isEntry := m.isEntry
	return m.Women >= 1 && m.areTurns(m.Turns) && each(m.Entries, isEntry) &&
		0 <= m.Wrong && m.Wrong <= api.MaxTurnEntries && m.areWomen(m.Used)
}

func (m Mangle) isWoman(n int) bool { return 0 <= n && n < m.Women }

func (m Mangle) isTurn(n int) bool { return 0 <= n && n < len(m.Turns) }

func (m Mangle) isEntry(e Entry) bool {
	switch e.Kind {
	case Sold:
		return m.isTurn(e.A) && m.isWoman(e.B)
	case Swapped, Given:
		return m.isWoman(e.A) && m.isWoman(e.B) && e.A != e.B
	}
	return false
}

// areWomen reports whether the list has women alone, and none of them twice.
func (m Mangle) areWomen(list []int) bool {
	for n, woman := range list {
		if !m.isWoman(woman) || slices.Contains(list[:n], woman) {
			return false
		}
	}
	return true
}

func (m Mangle) areTurns(list []int) bool { return m.areWomen(inOrder(list)) }

// inOrder returns who holds a turn, in the order of the turns.
func inOrder(turns []int) []int {
	var women []int
	for _, holder := range turns {
		if holder != None {
			women = append(women, holder)
		}
	}
	return women
}

// areFalse reports whether the list is false entries, possible or not.
func (m Mangle) areFalse(out []int) bool {
	last := -1
	for _, n := range out {
		if n <= last || n >= len(m.Entries) {
			return false
		}
		last = n
	}
	return true
}

func each[T any](list []T, is func(T) bool) bool {
	for _, x := range list {
		if !is(x) {
			return false
		}
	}
	return true
}
