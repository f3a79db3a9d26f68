package bundle

import (
	"slices"

	"posser/api"
)

func (r Range) has(n int) bool { return r.Lo <= n && n <= r.Hi }

func (t Table) isLong() bool {
	return len(t.Women) > api.MaxBundleWomen || len(t.Pieces) > api.MaxBundlePieces
}

// isValid does not ask for the choices: they are numbers of women, who have to be valid first.
func (t Table) isValid() bool {
	isPiece := t.isPiece
	return Range{0, api.MaxBundleWomen}.has(t.Wrong) && each(t.Women, isWoman) && each(t.Pieces, isPiece)
}

func isWoman(w Woman) bool {
	return isMark(w.Mark) && 0 <= w.Came.Lo && w.Came.Lo <= w.Came.Hi && w.Came.Hi <= api.MaxBundlePieces
}

func isMark(mark int) bool { return Range{0, api.MaxBundleMark}.has(mark) }

func (t Table) isPiece(p Piece) bool {
	return rises(p.Marks) && each(p.Marks, isMark) && t.hasWoman(p.Bundle) && len(t.womenOf(p)) > 0
}

func (t Table) hasWoman(woman int) bool { return 0 <= woman && woman < len(t.Women) }

func (t Table) womenOf(p Piece) []int {
	var women []int
	for n, w := range t.Women {
		if slices.Contains(p.Marks, w.Mark) {
			women = append(women, n)
		}
	}
	return women
}

// choices returns the numbers of women of all pieces, multiplied.
func (t Table) choices() int {
	product := 1
	for _, p := range t.Pieces {
		product *= len(t.womenOf(p))
	}
	return product
}

func rises(list []int) bool {
	for n := 1; n < len(list); n++ {
		if list[n] <= list[n-1] {
			return false
		}
	}
	return true
}

func each[T any](list []T, is func(T) bool) bool {
	for _, x := range list {
		if !is(x) {
			return false
		}
	}
	return true
}
