package tub

import (
	"posser/api"
	"posser/ticket"
)

func (r Range) has(n int) bool { return r.Lo <= n && n <= r.Hi }

// holds is false for a range without numbers, too.
func (r Range) holds(inner Range) bool {
	return r.has(inner.Lo) && r.has(inner.Hi) && inner.Lo <= inner.Hi
}

func (f Floor) isLong() bool {
	return f.Tubs > api.MaxTubTubs || len(f.Queue) > api.MaxTubQueue
}

// isValid does not ask for the House, which package ticket checks.
func (f Floor) isValid() bool {
	isDay := Range{0, api.MaxTicketMinute}.holds(Range{f.Open, f.Closing})
	isWashing := Range{0, api.MaxTubMinutes}.holds
	return f.Tubs >= 1 && isDay && each(f.Queue, isWashing)
}

// given asks for a floor that is valid: the one error that Free then has is that somebody still is at the tub.
func (f Floor) given() (tubs []int, from []Range) {
	for tub := range f.Tubs {
		if free, e := ticket.Free(f.House, tub); e == api.OK {
			tubs = append(tubs, tub)
			from = append(from, Range{max(free.Lo, f.Open), max(free.Hi, f.Open)})
		}
	}
	return tubs, from
}

// areOf reports whether the list has just one number of each of the ranges.
func areOf(ranges []Range, list []int) bool {
	if len(list) != len(ranges) {
		return false
	}
	for n, r := range ranges {
		if !r.has(list[n]) {
			return false
		}
	}
	return true
}

func (f Floor) isOrder(list []int) bool {
	taken := map[int]bool{}
	isNext := func(woman int) bool {
		isIt := 0 <= woman && woman < len(f.Queue) && !taken[woman]
		taken[woman] = true
		return isIt
	}
	return each(list, isNext)
}

// queued is the order in which the women wait.
func (f Floor) queued() []int {
	order := make([]int, len(f.Queue))
	for woman := range order {
		order[woman] = woman
	}
	return order
}

func each[T any](list []T, is func(T) bool) bool {
	for _, x := range list {
		if !is(x) {
			return false
		}
	}
	return true
}
