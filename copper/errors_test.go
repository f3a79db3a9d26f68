package copper_test

import (
	"math"
	"slices"
	"testing"

	"posser/api"
	"posser/copper"
)

// call is a call of the package with its results in one form; the arguments beside the coppers are right for those of the examples.
type call struct {
	name   string
	of     func(c copper.Copper) (zero bool, e api.Errno) // zero: each result but the error is the zero value
	truths bool                                           // whether it asks for a truth
}

func calls() []call {
	return []call{
		{"CheckCopper", func(c copper.Copper) (bool, api.Errno) { return true, copper.CheckCopper(c) }, false},
		{"Play", func(c copper.Copper) (bool, api.Errno) {
			hot, left, e := copper.Play(c, lows(c))
			return len(hot) == 0 && len(left) == 0, e
		}, false},
		{"Bounds", func(c copper.Copper) (bool, api.Errno) {
			hot, left, e := copper.Bounds(c)
			return len(hot) == 0 && len(left) == 0, e
		}, true},
		{"Keeps", func(c copper.Copper) (bool, api.Errno) { l, e := copper.Keeps(c); return len(l) == 0, e }, true},
		{"More", func(c copper.Copper) (bool, api.Errno) {
			v, e := copper.More(c, make([]int, len(c.Want)))
			return v == 0, e
		}, true},
		{"Spare", func(c copper.Copper) (bool, api.Errno) { n, e := copper.Spare(c, 0); return n == 0, e }, true},
		{"Lacks", func(c copper.Copper) (bool, api.Errno) { n, e := copper.Lacks(c); return n == 0, e }, true},
		{"Least", func(c copper.Copper) (bool, api.Errno) { l, e := copper.Least(c); return len(l) == 0, e }, true},
		{"First", func(c copper.Copper) (bool, api.Errno) { n, e := copper.First(c); return n == 0, e }, false},
		{"Leave", func(c copper.Copper) (bool, api.Errno) { l, e := copper.Leave(c); return len(l) == 0, e }, false},
	}
}

// lows is the truth with the least heat, and the least losses.
func lows(c copper.Copper) copper.Truth {
	out := truth(c.Heat.Lo)
	for _, r := range c.Loss {
		out.Loss = append(out.Loss, r.Lo)
	}
	return out
}

// change is one of the coppers of the examples, with a reading, and the error that they then have.
type change struct {
	name string
	to   func(c *copper.Copper)
	want api.Errno
}

// changes are at both sides of each limit.
func changes() []change {
	return slices.Concat(changesOfNumbers(), changesOfHours(), changesOfReadings(), changesOfTwoThings())
}

func changesOfNumbers() []change {
	return []change{
		{"nothing", func(c *copper.Copper) {}, api.OK},
		{"Last 4", func(c *copper.Copper) { *c = full() }, api.OK},
		{"Last 5", func(c *copper.Copper) { c.Last = 5 }, api.ErrLimit},
		{"Last 5, with all hours", func(c *copper.Copper) {
			c.Last, c.Coal, c.Want, c.Loss = 5, make([]int, 6), make([]int, 6), make([]copper.Range, 6)
		}, api.ErrLimit},
		{"Last 0", func(c *copper.Copper) {
			c.Last, c.Coal, c.Want, c.Loss = 0, list(3), list(20), ranges(0, 99)
		}, api.OK},
		{"Last -1", func(c *copper.Copper) { c.Last = -1 }, api.ErrArg},
		{"Last -1, without hours", func(c *copper.Copper) { c.Last, c.Coal, c.Want, c.Loss, c.Readings = -1, nil, nil, nil, nil }, api.ErrArg},
		{"Last -2", func(c *copper.Copper) { c.Last = -2 }, api.ErrArg},
		{"Start 0", func(c *copper.Copper) { c.Start = 0 }, api.OK},
		{"Start -1", func(c *copper.Copper) { c.Start = -1 }, api.ErrArg},
		{"Start 60", func(c *copper.Copper) { c.Start = 60 }, api.OK},
		{"Start 61", func(c *copper.Copper) { c.Start = 61 }, api.ErrArg},
		{"Most 7", func(c *copper.Copper) { c.Most = 7 }, api.OK},
		{"Most 6", func(c *copper.Copper) { c.Most = 6 }, api.ErrArg},
		{"Most 999", func(c *copper.Copper) { c.Most = 999 }, api.OK},
		{"Most 1000", func(c *copper.Copper) { c.Most = 1000 }, api.ErrArg},
		{"Most 0", func(c *copper.Copper) { c.Start, c.Most = 0, 0 }, api.OK},
		{"Most -1", func(c *copper.Copper) { c.Start, c.Most = 0, -1 }, api.ErrArg},
		{"Most and Start -1", func(c *copper.Copper) { c.Start, c.Most = -1, -1 }, api.ErrArg},
		{"Per 1", func(c *copper.Copper) { c.Per = 1 }, api.OK},
		{"Per 0", func(c *copper.Copper) { c.Per = 0 }, api.ErrArg},
		{"Per -4", func(c *copper.Copper) { c.Per = -4 }, api.ErrArg},
		{"Per 20", func(c *copper.Copper) { c.Per = 20 }, api.OK},
		{"Per 21", func(c *copper.Copper) { c.Per = 21 }, api.ErrArg},
		{"Shovels 2", func(c *copper.Copper) { c.Shovels = 2 }, api.OK},
		{"Shovels 1, fewer than are put on", func(c *copper.Copper) { c.Shovels = 1 }, api.ErrArg},
		{"Shovels 0", func(c *copper.Copper) { c.Shovels, c.Coal = 0, list(0, 0, 0) }, api.OK},
		{"Shovels -1", func(c *copper.Copper) { c.Shovels, c.Coal = -1, list(0, 0, 0) }, api.ErrArg},
		{"Shovels 4", func(c *copper.Copper) { c.Shovels = 4 }, api.ErrArg},
		{"Heat from 0", func(c *copper.Copper) { c.Heat = to(0, 2) }, api.OK},
		{"Heat from -1", func(c *copper.Copper) { c.Heat = to(-1, 2) }, api.ErrArg},
		{"Heat to 99", func(c *copper.Copper) { c.Heat = to(99, 99) }, api.OK},
		{"Heat to 100", func(c *copper.Copper) { c.Heat = to(99, 100) }, api.ErrArg},
		{"Heat of no numbers", func(c *copper.Copper) { c.Heat = to(11, 10) }, api.ErrArg},

		// Numbers that nothing may be computed from.
		{"the greatest Last", func(c *copper.Copper) { c.Last = math.MaxInt }, api.ErrLimit},
		{"the least Last", func(c *copper.Copper) { c.Last = math.MinInt }, api.ErrArg},
		{"the greatest Start and Most", func(c *copper.Copper) { c.Start, c.Most = math.MaxInt, math.MaxInt }, api.ErrArg},
		{"the least Start", func(c *copper.Copper) { c.Start = math.MinInt }, api.ErrArg},
		{"the least Per", func(c *copper.Copper) { c.Per = math.MinInt }, api.ErrArg},
		{"the greatest Shovels", func(c *copper.Copper) { c.Shovels = math.MaxInt }, api.ErrArg},
		{"all Heat", func(c *copper.Copper) { c.Heat = to(math.MinInt, math.MaxInt) }, api.ErrArg},
		{"no Heat", func(c *copper.Copper) { c.Heat = to(math.MaxInt, math.MinInt) }, api.ErrArg},
	}
}

func changesOfHours() []change {
	return []change{
		{"an hour without Coal", func(c *copper.Copper) { c.Coal = list(2, 1) }, api.ErrArg},
		{"Coal of one hour more", func(c *copper.Copper) { c.Coal = list(2, 1, 0, 0) }, api.ErrArg},
		{"no Coal", func(c *copper.Copper) { c.Coal = nil }, api.ErrArg},
		{"Coal 3", func(c *copper.Copper) { c.Coal = list(3, 3, 3) }, api.OK},
		{"Coal 4", func(c *copper.Copper) { c.Coal = list(0, 0, 4) }, api.ErrArg},
		{"Coal -1", func(c *copper.Copper) { c.Coal = list(-1, 0, 0) }, api.ErrArg},
		{"an hour without a Want", func(c *copper.Copper) { c.Want = list(3, 2) }, api.ErrArg},
		{"a Want of one hour more", func(c *copper.Copper) { c.Want = list(3, 2, 2, 0) }, api.ErrArg},
		{"no Want", func(c *copper.Copper) { c.Want = nil }, api.ErrArg},
		{"a Want of 20", func(c *copper.Copper) { c.Want = list(20, 20, 20) }, api.OK},
		{"a Want of 21", func(c *copper.Copper) { c.Want = list(0, 0, 21) }, api.ErrArg},
		{"a Want of -1", func(c *copper.Copper) { c.Want = list(-1, 0, 0) }, api.ErrArg},
		{"an hour without a Loss", func(c *copper.Copper) { c.Loss = c.Loss[:2] }, api.ErrArg},
		{"a Loss of one hour more", func(c *copper.Copper) { c.Loss = ranges(2, 3, 4, 4, 0, 2, 0, 0) }, api.ErrArg},
		{"no Loss", func(c *copper.Copper) { c.Loss = nil }, api.ErrArg},
		{"a Loss from -1", func(c *copper.Copper) { c.Loss[0] = to(-1, 0) }, api.ErrArg},
		{"a Loss to 99", func(c *copper.Copper) { c.Loss[2] = to(99, 99) }, api.OK},
		{"a Loss to 100", func(c *copper.Copper) { c.Loss[2] = to(99, 100) }, api.ErrArg},
		{"a Loss of no numbers", func(c *copper.Copper) { c.Loss[2] = to(1, 0) }, api.ErrArg},
		{"one hour more in all lists", func(c *copper.Copper) {
			c.Coal, c.Want, c.Loss = list(2, 1, 0, 0), list(3, 2, 2, 0), ranges(2, 3, 4, 4, 0, 2, 0, 0)
		}, api.ErrArg},
		{"2000 truths", func(c *copper.Copper) { c.Heat, c.Loss = to(0, 99), ranges(0, 9, 0, 1, 0, 0) }, api.OK},
		{"2000 truths of the last hour", func(c *copper.Copper) { c.Heat, c.Loss = to(0, 19), ranges(0, 0, 0, 0, 0, 99) }, api.OK},
		{"2001 truths", func(c *copper.Copper) { c.Heat, c.Loss = to(0, 2), ranges(1, 23, 71, 99, 0, 0) }, api.ErrLimit},
		{"100 times 100 truths", func(c *copper.Copper) { c.Heat, c.Loss = to(0, 99), ranges(0, 0, 0, 99, 0, 0) }, api.ErrLimit},
		{"as many truths as there can be", func(c *copper.Copper) {
			*c = full()
			c.Heat, c.Loss = to(0, 99), ranges(0, 99, 0, 99, 0, 99, 0, 99, 0, 99)
		}, api.ErrLimit},

		{"the greatest Coal", func(c *copper.Copper) { c.Coal[0] = math.MaxInt }, api.ErrArg},
		{"the least Want", func(c *copper.Copper) { c.Want[2] = math.MinInt }, api.ErrArg},
		{"all of a Loss", func(c *copper.Copper) { c.Loss[1] = to(math.MinInt, math.MaxInt) }, api.ErrArg},
		{"none of a Loss", func(c *copper.Copper) { c.Loss[1] = to(math.MaxInt, math.MinInt) }, api.ErrArg},
	}
}

func changesOfReadings() []change {
	last := func(hour, lo, hi int) func(c *copper.Copper) {
		return func(c *copper.Copper) { c.Readings = append(c.Readings, reading(hour, lo, hi)) }
	}
	return []change{
		{"no readings", func(c *copper.Copper) { c.Readings = nil }, api.OK},
		{"5 readings", func(c *copper.Copper) { c.Readings = make([]copper.Reading, 5) }, api.OK},
		{"6 readings", func(c *copper.Copper) { c.Readings = make([]copper.Reading, 6) }, api.ErrLimit},
		{"a reading of the hour 2", last(2, 0, 999), api.OK},
		{"a reading of the hour 3", last(3, 0, 999), api.ErrArg},
		{"a reading of the hour -1", last(-1, 0, 999), api.ErrArg},
		{"a reading from -1", last(0, -1, 999), api.ErrArg},
		{"a reading of 999", last(0, 999, 999), api.OK},
		{"a reading to 1000", last(0, 0, 1000), api.ErrArg},
		{"a reading of no numbers", last(0, 7, 6), api.ErrArg},
		{"the first reading", func(c *copper.Copper) {
			c.Readings = []copper.Reading{reading(0, 7, 6), reading(0, 6, 7)}
		}, api.ErrArg},
		{"a reading of the greatest hour", last(math.MaxInt, 0, 9), api.ErrArg},
		{"a reading of the least hour", last(math.MinInt, 0, 9), api.ErrArg},
		{"a reading of all numbers", last(0, math.MinInt, math.MaxInt), api.ErrArg},
	}
}

// changesOfTwoThings try the order of the row.
func changesOfTwoThings() []change {
	return []change{
		{"Last 5, Per 0", func(c *copper.Copper) { c.Last, c.Per = 5, 0 }, api.ErrLimit},
		{"6 readings, Last -1", func(c *copper.Copper) { c.Readings, c.Last = make([]copper.Reading, 6), -1 }, api.ErrLimit},
		{"6 readings of no hour", func(c *copper.Copper) { c.Readings = slices.Repeat([]copper.Reading{reading(9, 1, 0)}, 6) }, api.ErrLimit},
		{"10000 truths, Per 0", func(c *copper.Copper) { c.Heat, c.Loss[1], c.Per = to(0, 99), to(0, 99), 0 }, api.ErrArg},
		{"10000 truths, a reading of the hour 3", func(c *copper.Copper) { c.Heat, c.Loss[1], c.Readings[0].Hour = to(0, 99), to(0, 99), 3 }, api.ErrArg},
		{"10000 truths, the last Loss", func(c *copper.Copper) { c.Heat, c.Loss[1], c.Loss[2] = to(0, 99), to(0, 99), to(2, 1) }, api.ErrArg},
		{"10000 truths, one hour more", func(c *copper.Copper) { c.Heat, c.Loss[1], c.Want = to(0, 99), to(0, 99), list(3, 2, 2, 0) }, api.ErrArg},
	}
}

// P2.1, R1, R2, P1: each call returns the error of the coppers, and with it nothing else.
func TestErrorsOfTheCoppers(t *testing.T) {
	for _, x := range changes() {
		c := copied(example(reading(0, 6, 7)))
		x.to(&c)
		if e := copper.CheckCopper(c); e != x.want {
			t.Errorf("CheckCopper with %s: %v, not %v", x.name, e, x.want)
		}
		if x.want == api.OK {
			continue
		}
		for _, y := range calls() {
			if zero, e := y.of(c); e != x.want || !zero {
				t.Errorf("%s with %s: %v, not %v", y.name, x.name, e, x.want)
			}
		}
		if hot, left, e := copper.Play(c, truth(-1)); e != x.want || len(hot)+len(left) > 0 {
			t.Errorf("Play of no truth with %s: %v", x.name, e)
		}
		if v, e := copper.More(c, list(21)); e != x.want || v != 0 {
			t.Errorf("More of no list with %s: %v", x.name, e)
		}
		if n, e := copper.Spare(c, -1); e != x.want || n != 0 {
			t.Errorf("Spare of no hour with %s: %v", x.name, e)
		}
		if copper.ProveTruth(c, lows(c)) || copper.ProveTruth(c, copper.Truth{}) || copper.ProveCoal(c, c.Coal, 99) || copper.ProveCoal(c, nil, 99) {
			t.Errorf("ProveTruth, ProveCoal with %s", x.name)
		}
	}
}

// R1, R2: the calls that ask for a truth return ErrFalse, and nothing else, if there is none; the others do not.
func TestErrorsWithoutATruth(t *testing.T) {
	for _, y := range calls() {
		if zero, e := y.of(false2()); (e == api.ErrFalse) != y.truths || !y.truths && e != api.OK || y.truths && !zero {
			t.Errorf("%s: %v", y.name, e)
		}
	}
	if copper.ProveTruth(false2(), lows(false2())) || copper.ProveCoal(false2(), list(3, 3, 3), 9) {
		t.Errorf("ProveTruth, ProveCoal")
	}
}

// R1, R2: Play asks for a truth of the ranges, but not about readings.
func TestErrorsOfPlay(t *testing.T) {
	for _, x := range []struct {
		c    copper.Copper
		of   copper.Truth
		want api.Errno
	}{
		{example(), truth(10, 2, 4, 0), api.OK},
		{example(), truth(12, 3, 4, 2), api.OK},
		{false2(), truth(12, 3, 4, 2), api.OK},
		{example(), truth(9, 2, 4, 0), api.ErrRange},
		{example(), truth(13, 2, 4, 0), api.ErrRange},
		{example(), truth(10, 1, 4, 0), api.ErrRange},
		{example(), truth(10, 4, 4, 0), api.ErrRange},
		{example(), truth(10, 2, 3, 0), api.ErrRange},
		{example(), truth(10, 2, 4, 3), api.ErrRange},
		{example(), truth(10, 2, 4, -1), api.ErrRange},
		{example(), truth(10, 2, 4), api.ErrRange},
		{example(), truth(10, 2, 4, 0, 0), api.ErrRange},
		{example(), truth(10, 2, 4, 0, 0, 0, 0, 0), api.ErrRange},
		{example(), truth(10), api.ErrRange},
		{example(), truth(10, 2, 4, math.MinInt), api.ErrRange},
		{example(), truth(math.MaxInt, 2, 4, 0), api.ErrRange},
		{false2(), truth(13, 3, 4, 2), api.ErrRange},
		{small(), truth(0, 0), api.OK},
		{small(), truth(0, 0, 0), api.ErrRange},
	} {
		hot, left, e := copper.Play(x.c, x.of)
		if e != x.want || e != api.OK && len(hot)+len(left) > 0 || e == api.OK && (len(hot) != x.c.Last+1 || len(left) != x.c.Last+1) {
			t.Errorf("Play of %v, %v: %v, %v, %v; not %v", x.c, x.of, hot, left, e, x.want)
		}
		if e != api.OK && copper.ProveTruth(x.c, x.of) {
			t.Errorf("ProveTruth of %v, %v", x.c, x.of)
		}
	}
}

// R1, R2: the list of More is asked about before the truth.
func TestErrorsOfMore(t *testing.T) {
	for _, x := range []struct {
		c    copper.Copper
		more []int
		want api.Errno
	}{
		{example(), list(0, 0, 0), api.OK},
		{example(), list(20, 20, 20), api.OK},
		{promised(20, 20, 20), list(20, 20, 20), api.OK},
		{example(), list(21, 0, 0), api.ErrRange},
		{example(), list(0, 0, 21), api.ErrRange},
		{example(), list(-1, 0, 0), api.ErrRange},
		{example(), list(0, 0, -1), api.ErrRange},
		{example(), list(0, 0), api.ErrRange},
		{example(), list(0, 0, 0, 0), api.ErrRange},
		{example(), nil, api.ErrRange},
		{example(), list(), api.ErrRange},
		{example(), list(0, math.MaxInt, 0), api.ErrRange},
		{example(), list(0, math.MinInt, 0), api.ErrRange},
		{false2(), list(0, 0), api.ErrRange},
		{false2(), list(0, 0, 21), api.ErrRange},
		{false2(), list(0, 0, 0), api.ErrFalse},
	} {
		if v, e := copper.More(x.c, x.more); e != x.want || (e == api.OK) != (v != 0) {
			t.Errorf("More of %v, %v: %d, %v; not %v", x.c, x.more, v, e, x.want)
		}
	}
}

// R1, R2: the hour of Spare is asked about before the truth, and the truth before the promises.
func TestErrorsOfSpare(t *testing.T) {
	short := false2()
	short.Want = list(20, 20, 20)
	for _, x := range []struct {
		c    copper.Copper
		hour int
		want api.Errno
	}{
		{example(), 0, api.OK},
		{example(), 2, api.OK},
		{example(), 3, api.ErrRange},
		{example(), -1, api.ErrRange},
		{example(), math.MaxInt, api.ErrRange},
		{example(), math.MinInt, api.ErrRange},
		{false2(), 3, api.ErrRange},
		{false2(), 0, api.ErrFalse},
		{short, -1, api.ErrRange},
		{short, 2, api.ErrFalse},
		{promised(3, 2, 3), 3, api.ErrRange},
		{promised(3, 2, 3), 0, api.ErrShort}, // not kept in some truths
		{promised(3, 2, 3), 2, api.ErrShort},
		{promised(20, 2, 3), 0, api.ErrShort}, // kept in none
	} {
		if n, e := copper.Spare(x.c, x.hour); e != x.want || e != api.OK && n != 0 {
			t.Errorf("Spare of %v, %d: %d, %v; not %v", x.c, x.hour, n, e, x.want)
		}
	}
}

// R1, R2: what there is not.
func TestErrorsOfLacksLeastAndFirst(t *testing.T) {
	short := false2()
	short.Want = list(20, 20, 20)
	for _, x := range []struct {
		c                   copper.Copper
		lacks, least, first api.Errno
	}{
		{example(), api.ErrNone, api.OK, api.ErrNone},
		{promised(20, 0, 0), api.OK, api.ErrShort, api.ErrNone},
		{promised(3, 2, 3), api.OK, api.OK, api.ErrNone},
		{false2(), api.ErrFalse, api.ErrFalse, api.OK},
		{short, api.ErrFalse, api.ErrFalse, api.OK},
		{small(), api.ErrNone, api.OK, api.ErrNone},
		{copper.Copper{}, api.ErrArg, api.ErrArg, api.ErrArg},
	} {
		if n, e := copper.Lacks(x.c); e != x.lacks || e != api.OK && n != 0 {
			t.Errorf("Lacks of %v: %d, %v; not %v", x.c, n, e, x.lacks)
		}
		if l, e := copper.Least(x.c); e != x.least || e != api.OK && len(l) > 0 {
			t.Errorf("Least of %v: %v, %v; not %v", x.c, l, e, x.least)
		}
		if n, e := copper.First(x.c); e != x.first || e != api.OK && n != 0 {
			t.Errorf("First of %v: %d, %v; not %v", x.c, n, e, x.first)
		}
	}
}

// R3: nil and a list without elements are the same.
func TestNoElements(t *testing.T) {
	without, empty := example(), example()
	without.Readings, empty.Readings = nil, []copper.Reading{}
	a, b := ask(t, without), ask(t, empty)
	if !slices.Equal(a.hot, b.hot) || !slices.Equal(a.left, b.left) || !slices.Equal(a.keeps, b.keeps) || !slices.Equal(a.least, b.least) || len(leave(t, without))+len(leave(t, empty)) > 0 {
		t.Errorf("answers: %v, %v", a, b)
	}
	for _, l := range [][]int{nil, {}} {
		for _, to := range []func(c *copper.Copper){func(c *copper.Copper) { c.Coal = l }, func(c *copper.Copper) { c.Want = l }} {
			c := example()
			to(&c)
			if e := copper.CheckCopper(c); e != api.ErrArg {
				t.Errorf("CheckCopper of %v: %v", c, e)
			}
		}
		if _, e := copper.More(example(), l); e != api.ErrRange {
			t.Errorf("More of %v: %v", l, e)
		}
		if _, _, e := copper.Play(example(), copper.Truth{Heat: 10, Loss: l}); e != api.ErrRange {
			t.Errorf("Play of %v: %v", l, e)
		}
		if copper.ProveCoal(example(), l, 9) || copper.ProveTruth(example(), copper.Truth{Heat: 10, Loss: l}) {
			t.Errorf("ProveCoal, ProveTruth of %v", l)
		}
	}
}

// roomy is the coppers with their lists at the front of longer ones, so that what is written behind them shows.
func roomy(c copper.Copper) (copper.Copper, func() copper.Copper) {
	c.Coal = append(slices.Clone(c.Coal), 71, 72)
	c.Want = append(slices.Clone(c.Want), 73, 74)
	c.Loss = append(slices.Clone(c.Loss), to(7, 7), to(8, 8))
	c.Readings = append(slices.Clone(c.Readings), reading(7, 7, 7), reading(8, 8, 8))
	all := c
	c.Coal, c.Want = c.Coal[:len(c.Coal)-2], c.Want[:len(c.Want)-2]
	c.Loss, c.Readings = c.Loss[:len(c.Loss)-2], c.Readings[:len(c.Readings)-2]
	return c, func() copper.Copper { return copied(all) }
}

func sameCoppers(a, b copper.Copper) bool {
	return a.Last == b.Last && a.Start == b.Start && a.Most == b.Most && a.Per == b.Per && a.Shovels == b.Shovels && a.Heat == b.Heat &&
		slices.Equal(a.Coal, b.Coal) && slices.Equal(a.Want, b.Want) && slices.Equal(a.Loss, b.Loss) && slices.Equal(a.Readings, b.Readings)
}

// R4: arguments are not written to, nor what lies behind them.
func TestArgumentsAreNotWrittenTo(t *testing.T) {
	for _, of := range []copper.Copper{example(), example(reading(0, 6, 6), reading(2, 3, 3)), false2(), promised(3, 2, 9), full()} {
		c, all := roomy(of)
		before := all()
		for _, y := range calls() {
			y.of(c)
			if !sameCoppers(all(), before) {
				t.Fatalf("%s writes to its argument: %v, not %v", y.name, all(), before)
			}
		}
		hours := c.Last + 1
		loss, l := append(lows(c).Loss, 7, 7), append(make([]int, hours), 7, 7)
		wantLoss, want := slices.Clone(loss), slices.Clone(l)
		low := copper.Truth{Heat: c.Heat.Lo, Loss: loss[:hours]}
		copper.Play(c, low)
		copper.ProveTruth(c, low)
		copper.More(c, l[:hours])
		copper.ProveCoal(c, l[:hours], 9)
		if !slices.Equal(loss, wantLoss) || !slices.Equal(l, want) || !sameCoppers(all(), before) {
			t.Errorf("Play, ProveTruth, More or ProveCoal writes to its arguments: %v, %v", loss, l)
		}
	}
}

// fill writes over all of the list's memory.
func fill[T any](l []T, with T) {
	l = l[:cap(l)]
	for i := range l {
		l[i] = with
	}
}

// R4: results share no memory with arguments, nor with each other, nor with the results of other calls.
func TestResultsHaveTheirOwnMemory(t *testing.T) {
	c, all := roomy(example())
	before, of := all(), truth(10, 3, 4, 2)
	for range 2 {
		a := ask(t, c)
		hot, left := play(t, c, of)
		fill(left, -99)
		fill(a.left, to(-99, 99))
		if !slices.Equal(hot, list(6, 4, 2)) || !slices.Equal(a.hot, ranges(6, 7, 4, 6, 2, 4)) || !slices.Equal(a.keeps, list(always, always, always)) || !slices.Equal(a.least, list(1, 1, 1)) {
			t.Fatalf("answers: %v, %v", a, hot)
		}
		fill(hot, -99)
		fill(a.hot, to(-99, 99))
		fill(a.keeps, -99)
		fill(a.least, -99)
		bad := false2()
		set := leave(t, bad)
		if !slices.Equal(set, list(0)) {
			t.Fatalf("Leave: %v", set)
		}
		fill(set, -99)
		if !sameCoppers(all(), before) || !slices.Equal(of.Loss, list(3, 4, 2)) || !sameCoppers(bad, false2()) {
			t.Fatalf("a result is in an argument's memory: %v, %v", all(), of)
		}
	}
	// Coppers whose Coal is the least one, or that are hot just as is promised, have results that equal their arguments.
	same := example()
	same.Coal, same.Want = list(1, 1, 1), list(3, 2, 2)
	least, _ := copper.Least(same)
	if !slices.Equal(least, same.Coal) {
		t.Errorf("Least: %v", least)
	}
	fill(least, -99)
	if !slices.Equal(same.Coal, list(1, 1, 1)) {
		t.Errorf("Least is in its argument's memory")
	}
}

// P1: no call panics, whatever its arguments are.
func TestAnyArguments(t *testing.T) {
	numbers := list(0, 1, -1, 2, 3, 5, 21, 100, 1000, math.MaxInt, math.MinInt)
	d := &dice{state: 3}
	number := func() int { return numbers[d.below(len(numbers))] }
	some := func() []int {
		return list(number(), number(), number(), number(), number(), number(), number())[:d.below(8)]
	}
	for range 2000 {
		c := d.thrown(true)
		for _, n := range []*int{&c.Last, &c.Start, &c.Most, &c.Per, &c.Shovels, &c.Heat.Lo, &c.Heat.Hi} {
			if d.below(10) == 0 {
				*n = number()
			}
		}
		if d.below(4) == 0 {
			c.Coal, c.Want = append(c.Coal, some()...), append(c.Want, some()...)
		}
		if d.below(4) == 0 {
			c.Loss = append(c.Loss, to(number(), number()))
		}
		if d.below(4) == 0 {
			c.Readings = append(c.Readings, reading(number(), number(), number()))
		}
		for _, y := range calls() {
			y.of(c)
		}
		copper.Spare(c, number())
		copper.More(c, some())
		copper.Play(c, truth(number(), some()...))
		copper.ProveTruth(c, truth(number(), some()...))
		copper.ProveCoal(c, some(), number())
	}
}
