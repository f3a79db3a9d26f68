package sick

import (
	"slices"

	"posser/api"
	"posser/bundle"
)

func (r Range) has(n int) bool { return r.Lo <= n && n <= r.Hi }

func (r Range) numbers() []int {
	var numbers []int
	for n := r.Lo; n <= r.Hi; n++ {
		numbers = append(numbers, n)
	}
	return numbers
}

func (h House) isLong() bool {
	return h.Last > api.MaxSickLast || h.Others > api.MaxSickThings || len(h.Touches) > api.MaxSickTouches ||
		len(h.Boiled) > api.MaxSickBoiled || len(h.Signs) > api.MaxSickSigns
}

// isValid asks neither for the Table, which package bundle checks, nor for the choices: they can be multiplied only once the ranges are known to be valid.
func (h House) isValid() bool {
	if h.Last < 0 || h.Others < 0 || h.things() > api.MaxSickThings {
		return false
	}
	isWoman, isTouch, isBoiling, isSign := h.isWoman, h.isTouch, h.isBoiling, h.isSign
	return rises(h.Sick) && each(h.Sick, isWoman) && each(h.Touches, isTouch) && each(h.Boiled, isBoiling) && each(h.Signs, isSign)
}

func (h House) things() int { return len(h.Table.Pieces) + h.Others }

func (h House) hours() Range { return Range{0, h.Last} }

func (h House) isThing(n int) bool { return 0 <= n && n < h.things() }

func (h House) areThings(list []int) bool { return each(list, h.isThing) }

func (h House) isWoman(n int) bool { return 0 <= n && n < len(h.Table.Women) }

func (h House) isTouch(t Touch) bool {
	isHour := 0 <= t.Hour.Lo && t.Hour.Lo <= t.Hour.Hi && t.Hour.Hi <= h.Last
	return isHour && h.isThing(t.A) && h.isThing(t.B) && t.A != t.B
}

func (h House) isBoiling(b Boiling) bool { return h.isThing(b.Thing) && h.hours().has(b.Hour) }

func (h House) isSign(s Sign) bool { return h.isThing(s.Thing) }

// choices returns the numbers of women of all pieces, and the sizes of all ranges of hours, multiplied.
func (h House) choices() int {
	product := 1
	for _, p := range h.Table.Pieces {
		product *= h.womenOf(p)
	}
	for _, t := range h.Touches {
		product *= t.Hour.Hi - t.Hour.Lo + 1
	}
	return product
}

// womenOf counts those who have the mark of the piece, whatever they counted: Whose of package bundle has fewer.
func (h House) womenOf(p bundle.Piece) int {
	many := 0
	for _, w := range h.Table.Women {
		if slices.Contains(p.Marks, w.Mark) {
			many++
		}
	}
	return many
}

func (h House) isCourse(c Course) bool {
	return h.areHours(c.Hours) && bundle.ProveTruth(h.Table, c.Owners)
}

// areHours reports whether the list has just one number of the hours of each touch.
func (h House) areHours(list []int) bool {
	if len(list) != len(h.Touches) {
		return false
	}
	for n, hour := range list {
		if !h.Touches[n].Hour.has(hour) {
			return false
		}
	}
	return true
}

func rises(list []int) bool {
	for n := 1; n < len(list); n++ {
		if list[n] <= list[n-1] {
			return false
		}
	}
	return true
}

func each[T any](list []T, is func(T) bool) bool {
	for _, x := range list {
		if !is(x) {
			return false
		}
	}
	return true
}
