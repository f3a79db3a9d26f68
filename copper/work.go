package copper

import (
	"iter"
	"slices"

	"posser/api"
)

// byHour has a number for each hour. What is beyond the last hour of the coppers stays 0, so that two of the same coppers are equal if those of their hours are.
type byHour [api.MaxCopperLast + 1]int

// listOf returns the numbers of the hours that the coppers have.
func (c Copper) listOf(b byHour) []int { return slices.Clone(b[:c.hours()]) }

// truth is a Truth that can be compared.
type truth struct {
	heat int
	loss byHour
}

func (c Copper) truthOf(t Truth) (truth, bool) {
	if !c.Heat.has(t.Heat) || len(t.Loss) != c.hours() {
		return truth{}, false
	}
	chosen := truth{heat: t.Heat}
	for hour, n := range t.Loss {
		if !c.Loss[hour].has(n) {
			return truth{}, false
		}
		chosen.loss[hour] = n
	}
	return chosen, true
}

// allTruths gives those in which readings are wrong, too.
func (c Copper) allTruths() iter.Seq[truth] {
	return func(yield func(truth) bool) {
		for heat := c.Heat.Lo; heat <= c.Heat.Hi; heat++ {
			for loss := range choices(c.Loss) {
				if !yield(truth{heat, loss}) {
					return
				}
			}
		}
	}
}

// choices gives each choice of a number of each hour's range, the lexicographically first one first.
func choices(ranges []Range) iter.Seq[byHour] {
	return func(yield func(byHour) bool) {
		var chosen byHour
		var choose func(hour int) bool
		choose = func(hour int) bool {
			if hour == len(ranges) {
				return yield(chosen)
			}
			for n := ranges[hour].Lo; n <= ranges[hour].Hi; n++ {
				chosen[hour] = n
				if !choose(hour + 1) {
					return false
				}
			}
			return true
		}
		choose(0)
	}
}

// truths gives the truths of the coppers. Those of coppers with other coal, or other promises, are never asked for: readings were made with the Coal and the Want.
func (c Copper) truths() iter.Seq[truth] {
	return func(yield func(truth) bool) {
		for t := range c.allTruths() {
			if c.work(t).areRight() && !yield(t) {
				return
			}
		}
	}
}

func (c Copper) hasTruth() bool {
	for range c.truths() {
		return true
	}
	return false
}

// atWork is coppers in one truth: hot is before any bucket of the hour is drawn, left is after it.
type atWork struct {
	Copper
	hot, left byHour
}

func (c Copper) work(t truth) atWork {
	w := atWork{Copper: c}
	heat := c.Start
	for hour := range c.hours() {
		heat = min(heat+t.heat*c.Coal[hour], c.Most)
		heat = max(heat-t.loss[hour], 0)
		w.hot[hour] = heat / c.Per
		if w.isKept(hour) {
			heat -= c.Per * c.Want[hour]
		} else {
			heat = 0
		}
		w.left[hour] = heat
	}
	return w
}

func (w atWork) hotIn(hour int) int { return w.hot[hour] }

func (w atWork) leftAfter(hour int) int { return w.left[hour] }

func (w atWork) isKept(hour int) bool { return w.hot[hour] >= w.Want[hour] }

func (w atWork) areKept() bool {
	for hour := range w.hours() {
		if !w.isKept(hour) {
			return false
		}
	}
	return true
}

func (w atWork) areRight() bool {
	for _, r := range w.Readings {
		if !r.Buckets.has(w.hot[r.Hour]) {
			return false
		}
	}
	return true
}
