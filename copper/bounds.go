package copper

import (
	"iter"
	"math"

	"posser/api"
)

// quantity is a number that a truth gives to each hour.
type quantity struct {
	of func(w atWork, hour int) int
}

// bounds asks for coppers that have a truth: without one nothing is bounded.
func (q quantity) bounds(c Copper) []Range {
	out := make([]Range, c.hours())
	for hour := range c.hours() {
		out[hour] = Range{math.MaxInt, math.MinInt}
	}
	for t := range c.truths() {
		w := c.work(t)
		for hour, r := range out {
			n := q.of(w, hour)
			out[hour] = Range{minimum(r.Lo, n), max(r.Hi, n)}
		}
	}
	return out
}

// verdict asks for some truths: in none of them all would be so both always and never. They are those of the coppers as they are, also if these ones have other promises.
func (c Copper) verdict(truths iter.Seq[truth], isSo func(atWork) bool) int {
	all, some := true, false
	for t := range truths {
		so := isSo(c.work(t))
		all = all && so
		some = some || so
	}
	switch {
	case all:
		return Always
	case !some:
		return Never
	}
	return Perhaps
}

// areAlwaysKept is a verdict that needs no more truths once a promise is not kept.
func (c Copper) areAlwaysKept(truths iter.Seq[truth]) bool {
	for t := range truths {
		if !c.work(t).areKept() {
			return false
		}
	}
	return true
}

// spare asks for promises that are always kept with none more.
func (c Copper) spare(hour int) int {
	for n := api.MaxCopperWant; n > 0; n-- {
		more := make([]int, c.hours())
		more[hour] = n
		if c.withMore(more).areAlwaysKept(c.truths()) {
			return n
		}
	}
	return 0
}

func (c Copper) withMore(more []int) Copper {
	want := make([]int, c.hours())
	for hour := range c.hours() {
		want[hour] = c.Want[hour] + more[hour]
	}
	c.Want = want
	return c
}

// minimum has its first number apart because of no numbers there is no smallest one.
func minimum(first int, more ...int) int {
	for _, n := range more {
		first = min(first, n)
	}
	return first
}
