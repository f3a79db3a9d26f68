package closet

import (
	"math"
	"slices"

	"posser/api"
)

// dryBounds returns for each horse the bounds of its dry number. It asks for closets that have a truth: without one nothing is bounded.
func (c Closet) dryBounds() []Range {
	bounds := slices.Repeat([]Range{{math.MaxInt, math.MinInt}}, len(c.Horses))
	for dry := range c.truths() {
		for horse, r := range bounds {
			n := dry[horse]
			bounds[horse] = Range{minimum(r.Lo, n), max(r.Hi, n)}
		}
	}
	return bounds
}

// question is about some minutes of a horse. It is answered from the bounds of its dry number, so that the truths need not be gone through again for each placement.
type question struct {
	of func(w atWork, horse int, dry Range) Range
}

func (q question) ofEach(w atWork, dry []Range) []Range {
	minutes := make([]Range, len(dry))
	for horse, r := range dry {
		minutes[horse] = q.of(w, horse, r)
	}
	return minutes
}

func (w atWork) bounds(horse int, dry Range) Range {
	delay := w.delays[horse]
	return Range{dry.Lo + delay, dry.Hi + delay}
}

// good returns a range without numbers if no minute is good. What is right always is so if the horse dries as late, and as early, as it can.
func (w atWork) good(horse int, dry Range) Range {
	minutes := w.bounds(horse, dry)
	return Range{minutes.Hi, minimum(w.Close, minutes.Lo+w.Horses[horse].Grace)}
}

func (c Closet) goodMinutes(place []int, dry []Range) []Range {
	return question{of: atWork.good}.ofEach(c.work(place), dry)
}

// verdict asks for closets that have a truth: without one all would be so both always and never.
func (c Closet) verdict(place []int, horse, minute int) int {
	w := c.work(place)
	all, some := true, false
	for dry := range c.truths() {
		is := w.isRight(horse, minute, dry)
		all = all && is
		some = some || is
	}
	switch {
	case all:
		return Always
	case !some:
		return Never
	}
	return Perhaps
}

// lookAt is a horse with a minute.
type lookAt struct{ horse, minute int }

// dryThen counts the truths in which a horse is dry in a minute, and all truths.
func (c Closet) dryThen() (dryThen map[lookAt]int, truths int) {
	hung := c.work(c.Hung)
	dryThen = map[lookAt]int{}
	for dry := range c.truths() {
		truths++
		for horse := range len(c.Horses) {
			dryThen[lookAt{horse, hung.dryMinute(horse, dry)}]++
		}
	}
	// So far a truth is counted in the dry minute alone, but the horse stays dry.
	for horse := range len(c.Horses) {
		for minute := range api.MaxClosetClose {
			dryThen[lookAt{horse, minute + 1}] += dryThen[lookAt{horse, minute}]
		}
	}
	return dryThen, truths
}

// bestLook starts with the horse 0 in the minute 0, which leaves all truths because nothing is dry then.
func (c Closet) bestLook() (best lookAt, left int) {
	dryThen, truths := c.dryThen()
	left = truths
	for horse := range len(c.Horses) {
		for minute := range api.MaxClosetClose + 1 {
			at := lookAt{horse, minute}
			if leaves := max(dryThen[at], truths-dryThen[at]); leaves < left {
				best, left = at, leaves
			}
		}
	}
	return best, left
}

// minimum has its first number apart because of no numbers there is no smallest one.
func minimum(first int, more ...int) int {
	for _, n := range more {
		first = min(first, n)
	}
	return first
}
