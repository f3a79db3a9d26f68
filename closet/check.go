package closet

import (
	"slices"

	"posser/api"
)

func (r Range) has(n int) bool { return r.Lo <= n && n <= r.Hi }

func (r Range) isEmpty() bool { return r.Lo > r.Hi }

func (c Closet) isLong() bool {
	return c.Closets > api.MaxClosetClosets || len(c.Horses) > api.MaxClosetHorses || len(c.Looks) > api.MaxClosetLooks
}

// isValid does not ask for the sizes of the ranges: they can be multiplied only once the ranges are known to be valid.
func (c Closet) isValid() bool {
	if c.Closets < 1 || !isMinute(c.Close) {
		return false
	}
	isLook := c.isLook
	return each(c.Horses, isHorse) && c.isPlacement(c.Hung) && each(c.Looks, isLook)
}

func isMinute(minute int) bool { return Range{0, api.MaxClosetClose}.has(minute) }

func isHorse(h Horse) bool {
	isDry := 1 <= h.Dry.Lo && h.Dry.Lo <= h.Dry.Hi && h.Dry.Hi <= api.MaxClosetDry
	return isDry && Range{0, api.MaxClosetWet}.has(h.Wet) && Range{0, api.MaxClosetGrace}.has(h.Grace)
}

// isPlacement reports whether the list has just one closet for each horse, and none of them twice.
func (c Closet) isPlacement(list []int) bool {
	if len(list) != len(c.Horses) {
		return false
	}
	for horse, closet := range list {
		if closet < 0 || closet >= c.Closets || slices.Contains(list[:horse], closet) {
			return false
		}
	}
	return true
}

func (c Closet) isLook(l Look) bool { return c.hasHorse(l.Horse) && isMinute(l.Minute) }

func (c Closet) hasHorse(horse int) bool { return 0 <= horse && horse < len(c.Horses) }

func (c Closet) sizes() int {
	product := 1
	for _, h := range c.Horses {
		product *= h.Dry.Hi - h.Dry.Lo + 1
	}
	return product
}

func each[T any](list []T, is func(T) bool) bool {
	for _, x := range list {
		if !is(x) {
			return false
		}
	}
	return true
}
