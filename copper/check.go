package copper

import "posser/api"

func (r Range) has(n int) bool { return r.Lo <= n && n <= r.Hi }

// isUpTo reports whether the range has some numbers, and none but those from 0 to most.
func (r Range) isUpTo(most int) bool { return 0 <= r.Lo && r.Lo <= r.Hi && r.Hi <= most }

func (c Copper) isLong() bool {
	return c.Last > api.MaxCopperLast || len(c.Readings) > api.MaxCopperReadings
}

// isValid does not ask for the sizes of the ranges: they can be multiplied only once the ranges are known to be valid.
func (c Copper) isValid() bool {
	if c.Last < 0 || !c.hasValidNumbers() {
		return false
	}
	if !c.isForHours(c.Coal, c.Shovels) || !c.isForHours(c.Want, api.MaxCopperWant) {
		return false
	}
	if !c.Heat.isUpTo(api.MaxCopperHeat) || len(c.Loss) != c.hours() || !each(c.Loss, isLoss) {
		return false
	}
	return each(c.Readings, c.isReading)
}

func (c Copper) hasValidNumbers() bool {
	return Range{0, api.MaxCopperMost}.has(c.Most) && Range{0, c.Most}.has(c.Start) &&
		Range{1, api.MaxCopperPer}.has(c.Per) && Range{0, api.MaxCopperShovels}.has(c.Shovels)
}

func isLoss(r Range) bool { return r.isUpTo(api.MaxCopperLoss) }

func (c Copper) isReading(r Reading) bool {
	return c.hasHour(r.Hour) && r.Buckets.isUpTo(api.MaxCopperMost)
}

func (c Copper) hours() int { return c.Last + 1 }

func (c Copper) hasHour(hour int) bool { return Range{0, c.Last}.has(hour) }

// isForHours reports whether the list has just one number from 0 to most for each hour.
func (c Copper) isForHours(list []int, most int) bool {
	return len(list) == c.hours() && each(list, Range{0, most}.has)
}

func (c Copper) sizes() int {
	product := c.Heat.Hi - c.Heat.Lo + 1
	for _, r := range c.Loss {
		product *= r.Hi - r.Lo + 1
	}
	return product
}

func each[T any](list []T, is func(T) bool) bool {
	for _, x := range list {
		if !is(x) {
			return false
		}
	}
	return true
}
