package closet_test

import (
	"math"
	"slices"
	"testing"

	"posser/api"
	"posser/closet"
)

// call is a call of the package with its results in one form; its other arguments are right for the closets.
type call struct {
	name   string
	of     func(c closet.Closet) (zero bool, e api.Errno) // zero: each result but the error is the zero value
	truths bool                                           // whether it asks for a truth
}

func calls() []call {
	return []call{
		{"CheckCloset", func(c closet.Closet) (bool, api.Errno) { return true, closet.CheckCloset(c) }, false},
		{"Play", func(c closet.Closet) (bool, api.Errno) {
			l, e := closet.Play(c, c.Hung, firstDry(c))
			return len(l) == 0, e
		}, false},
		{"Bounds", func(c closet.Closet) (bool, api.Errno) { l, e := closet.Bounds(c, c.Hung); return len(l) == 0, e }, true},
		{"Right", func(c closet.Closet) (bool, api.Errno) { v, e := closet.Right(c, c.Hung, 0, 0); return v == 0, e }, true},
		{"Good", func(c closet.Closet) (bool, api.Errno) {
			r, e := closet.Good(c, c.Hung, 0)
			return r == closet.Range{}, e
		}, true},
		{"Stuck", func(c closet.Closet) (bool, api.Errno) { n, e := closet.Stuck(c, c.Hung); return n == 0, e }, true},
		{"Best", func(c closet.Closet) (bool, api.Errno) {
			l, done, e := closet.Best(c)
			return len(l) == 0 && done == 0, e
		}, true},
		{"Ask", func(c closet.Closet) (bool, api.Errno) {
			n, minute, left, e := closet.Ask(c)
			return n == 0 && minute == 0 && left == 0, e
		}, true},
		{"First", func(c closet.Closet) (bool, api.Errno) { n, e := closet.First(c); return n == 0, e }, false},
		{"Leave", func(c closet.Closet) (bool, api.Errno) { l, e := closet.Leave(c); return len(l) == 0, e }, false},
	}
}

// firstDry has for each horse the least number of its Dry.
func firstDry(c closet.Closet) []int {
	var out []int
	for _, h := range c.Horses {
		out = append(out, h.Dry.Lo)
	}
	return out
}

// change is one of the closets of the examples with a look, and the error that they then have.
type change struct {
	name string
	to   func(c *closet.Closet)
	want api.Errno
}

// changes are at both sides of each limit.
func changes() []change {
	return slices.Concat(changesOfClosets(), changesOfHorses(), changesOfHung(), changesOfLooks(), changesOfTwoThings())
}

func changesOfClosets() []change {
	closets := func(n int) func(c *closet.Closet) { return func(c *closet.Closet) { c.Closets = n } }
	minute := func(n int) func(c *closet.Closet) { return func(c *closet.Closet) { c.Close = n } }
	return []change{
		{"nothing", func(c *closet.Closet) {}, api.OK},
		{"as little as is allowed", func(c *closet.Closet) { *c = small() }, api.OK},
		{"as much as is allowed", func(c *closet.Closet) { *c = full() }, api.OK},
		{"nothing at all", func(c *closet.Closet) { *c = closet.Closet{} }, api.ErrArg},
		{"Closets 4", closets(4), api.OK},
		{"Closets 5", closets(5), api.ErrLimit},
		{"the most closets", closets(math.MaxInt), api.ErrLimit},
		{"Closets 2", closets(2), api.OK},
		{"Closets 1", closets(1), api.ErrArg},
		{"Closets 0", closets(0), api.ErrArg},
		{"Closets -1", closets(-1), api.ErrArg},
		{"the fewest closets", closets(math.MinInt), api.ErrArg},
		{"Closets 0 of no horses", func(c *closet.Closet) { *c = small(); c.Closets = 0 }, api.ErrArg},
		{"Closets -1 of no horses", func(c *closet.Closet) { *c = small(); c.Closets = -1 }, api.ErrArg},
		{"Closets 4 of no horses", func(c *closet.Closet) { *c = small(); c.Closets = 4 }, api.OK},
		{"Close 0", minute(0), api.OK},
		{"Close -1", minute(-1), api.ErrArg},
		{"Close 99", minute(99), api.OK},
		{"Close 100", minute(100), api.ErrArg},
		{"the last Close", minute(math.MaxInt), api.ErrArg},
		{"the first Close", minute(math.MinInt), api.ErrArg},
	}
}

func changesOfHorses() []change {
	dries := func(n, lo, hi int) func(c *closet.Closet) {
		return func(c *closet.Closet) { c.Horses[n].Dry = to(lo, hi) }
	}
	wet := func(n, wet int) func(c *closet.Closet) { return func(c *closet.Closet) { c.Horses[n].Wet = wet } }
	grace := func(n, grace int) func(c *closet.Closet) { return func(c *closet.Closet) { c.Horses[n].Grace = grace } }
	size := func(first, second int) func(c *closet.Closet) {
		return func(c *closet.Closet) { c.Horses[0].Dry, c.Horses[1].Dry = to(1, first), to(61-second, 60) }
	}
	return []change{
		{"Dry 1", dries(0, 1, 1), api.OK},
		{"Dry from 0", dries(0, 0, 1), api.ErrArg},
		{"Dry from -1", dries(1, -1, 1), api.ErrArg},
		{"Dry 60", dries(0, 60, 60), api.OK},
		{"Dry to 61", dries(1, 60, 61), api.ErrArg},
		{"Dry 61", dries(1, 61, 61), api.ErrArg},
		{"Dry of no numbers", dries(0, 21, 20), api.ErrArg},
		{"Dry of all numbers", dries(0, math.MinInt, math.MaxInt), api.ErrArg},
		{"Dry of none of all numbers", dries(1, math.MaxInt, math.MinInt), api.ErrArg},
		{"Dry of many numbers", dries(1, 1, math.MaxInt), api.ErrArg},
		{"Wet 0", wet(0, 0), api.OK},
		{"Wet -1", wet(0, -1), api.ErrArg},
		{"Wet 9", wet(1, 9), api.OK},
		{"Wet 10", wet(1, 10), api.ErrArg},
		{"the greatest Wet", wet(0, math.MaxInt), api.ErrArg},
		{"the least Wet", wet(1, math.MinInt), api.ErrArg},
		{"Grace 0", grace(0, 0), api.OK},
		{"Grace -1", grace(0, -1), api.ErrArg},
		{"Grace 30", grace(1, 30), api.OK},
		{"Grace 31", grace(1, 31), api.ErrArg},
		{"the greatest Grace", grace(0, math.MaxInt), api.ErrArg},
		{"the least Grace", grace(1, math.MinInt), api.ErrArg},
		{"no horses, but a look and Hung", func(c *closet.Closet) { c.Horses = nil }, api.ErrArg},
		{"no horses, but Hung", func(c *closet.Closet) { c.Horses, c.Looks = nil, nil }, api.ErrArg},
		{"no horses, but a look", func(c *closet.Closet) { c.Horses, c.Hung = nil, nil }, api.ErrArg},
		{"no horses", func(c *closet.Closet) { c.Horses, c.Hung, c.Looks = nil, nil, nil }, api.OK},
		{"4 horses", func(c *closet.Closet) {
			c.Horses, c.Hung, c.Closets = slices.Repeat([]closet.Horse{horse(1, 6, 0, 0)}, 4), list(3, 1, 0, 2), 4
		}, api.OK},
		{"4 horses in 3 closets", func(c *closet.Closet) {
			c.Horses, c.Hung = slices.Repeat([]closet.Horse{horse(1, 6, 0, 0)}, 4), list(3, 1, 0, 2)
		}, api.ErrArg},
		{"5 horses", func(c *closet.Closet) {
			c.Horses, c.Hung = slices.Repeat([]closet.Horse{horse(1, 1, 0, 0)}, 5), list(3, 1, 0, 2, 4)
		}, api.ErrLimit},
		{"2000 dry numbers", size(50, 40), api.OK},
		{"2050 dry numbers", size(50, 41), api.ErrLimit},
		{"2001 dry numbers", func(c *closet.Closet) {
			c.Closets, c.Horses, c.Hung = 4, []closet.Horse{horse(1, 29, 0, 0), horse(1, 23, 0, 0), horse(1, 3, 0, 0)}, list(0, 1, 2)
		}, api.ErrLimit},
		{"1998 dry numbers", func(c *closet.Closet) {
			c.Closets, c.Horses, c.Hung = 4, []closet.Horse{horse(1, 37, 0, 0), horse(1, 54, 0, 0)}, list(0, 1)
		}, api.OK},
		{"as many dry numbers as there can be", func(c *closet.Closet) {
			c.Closets, c.Horses, c.Hung = 4, slices.Repeat([]closet.Horse{horse(1, 60, 0, 0)}, 4), list(0, 1, 2, 3)
		}, api.ErrLimit},
		{"2050 dry numbers, of which few are a truth", func(c *closet.Closet) {
			size(50, 41)(c)
			c.Looks = []closet.Look{dry(0, 5), damp(1, 60)}
		}, api.ErrLimit},
	}
}

func changesOfHung() []change {
	hangs := func(l ...int) func(c *closet.Closet) { return func(c *closet.Closet) { c.Hung = l } }
	return []change{
		{"Hung 2, 1", hangs(2, 1), api.OK},
		{"Hung 1, 1", hangs(1, 1), api.ErrArg},
		{"Hung 0, 0", hangs(0, 0), api.ErrArg},
		{"Hung 0, 3", hangs(0, 3), api.ErrArg},
		{"Hung -1, 1", hangs(-1, 1), api.ErrArg},
		{"Hung in the last of all closets", hangs(0, math.MaxInt), api.ErrArg},
		{"Hung in the first of all closets", hangs(math.MinInt, 0), api.ErrArg},
		{"Hung of one horse", hangs(0), api.ErrArg},
		{"Hung of three horses", hangs(0, 1, 2), api.ErrArg},
		{"Hung of no horse", hangs(), api.ErrArg},
		{"Hung of many horses", hangs(make([]int, 1000)...), api.ErrArg},
	}
}

func changesOfLooks() []change {
	looks := func(n, minute int) func(c *closet.Closet) {
		return func(c *closet.Closet) { c.Looks[0].Horse, c.Looks[0].Minute = n, minute }
	}
	many := func(l ...closet.Look) func(c *closet.Closet) { return func(c *closet.Closet) { c.Looks = l } }
	return []change{
		{"no looks", many(), api.OK},
		{"5 looks", many(slices.Repeat([]closet.Look{damp(1, 0)}, 5)...), api.OK},
		{"6 looks", many(slices.Repeat([]closet.Look{damp(1, 0)}, 6)...), api.ErrLimit},
		{"a look at the horse 0", looks(0, 30), api.OK},
		{"a look at the horse 2", looks(2, 30), api.ErrArg},
		{"a look at the horse -1", looks(-1, 30), api.ErrArg},
		{"a look at the last of all horses", looks(math.MaxInt, 30), api.ErrArg},
		{"a look at the first of all horses", looks(math.MinInt, 30), api.ErrArg},
		{"a look in the minute 99", looks(1, 99), api.OK},
		{"a look in the minute 100", looks(1, 100), api.ErrArg},
		{"a look in the minute -1", looks(1, -1), api.ErrArg},
		{"a look in the last minute", looks(1, math.MaxInt), api.ErrArg},
		{"a look in the first minute", looks(1, math.MinInt), api.ErrArg},
		{"a look after Close", func(c *closet.Closet) { c.Close, c.Looks[0].Minute = 40, 41 }, api.OK},
		{"a last look that is not valid", many(dry(1, 40), dry(1, 40), dry(2, 40)), api.ErrArg},
	}
}

// changesOfTwoThings try the order of the row.
func changesOfTwoThings() []change {
	large := func(c *closet.Closet) { c.Horses[0].Dry, c.Horses[1].Dry = to(1, 60), to(1, 60) }
	also := func(one, other func(c *closet.Closet)) func(c *closet.Closet) {
		return func(c *closet.Closet) { one(c); other(c) }
	}
	return []change{
		{"Closets 5, Close -1", func(c *closet.Closet) { c.Closets, c.Close = 5, -1 }, api.ErrLimit},
		{"Closets 5 and nothing", func(c *closet.Closet) { *c = closet.Closet{Closets: 5} }, api.ErrLimit},
		{"5 horses that are not valid", func(c *closet.Closet) { c.Horses = make([]closet.Horse, 5) }, api.ErrLimit},
		{"5 horses, Closets 0", func(c *closet.Closet) { c.Closets, c.Horses = 0, make([]closet.Horse, 5) }, api.ErrLimit},
		{"6 looks that are not valid", func(c *closet.Closet) { c.Looks = slices.Repeat([]closet.Look{dry(-1, -1)}, 6) }, api.ErrLimit},
		{"6 looks, Hung 0, 0", func(c *closet.Closet) { c.Looks, c.Hung = make([]closet.Look, 6), list(0, 0) }, api.ErrLimit},
		{"many dry numbers, Close 100", also(large, func(c *closet.Closet) { c.Close = 100 }), api.ErrArg},
		{"many dry numbers, Closets 0", also(large, func(c *closet.Closet) { c.Closets = 0 }), api.ErrArg},
		{"many dry numbers, a Wet 10", also(large, func(c *closet.Closet) { c.Horses[1].Wet = 10 }), api.ErrArg},
		{"many dry numbers, a Grace 31", also(large, func(c *closet.Closet) { c.Horses[1].Grace = 31 }), api.ErrArg},
		{"many dry numbers, a Dry to 61", also(large, func(c *closet.Closet) { c.Horses[1].Dry.Hi = 61 }), api.ErrArg},
		{"many dry numbers, Hung 0, 0", also(large, func(c *closet.Closet) { c.Hung = list(0, 0) }), api.ErrArg},
		{"many dry numbers, a look at the horse 2", also(large, func(c *closet.Closet) { c.Looks[0].Horse = 2 }), api.ErrArg},
		{"many dry numbers, Closets 5", also(large, func(c *closet.Closet) { c.Closets = 5 }), api.ErrLimit},
	}
}

// P4.1, R1, R2, P1: each call returns the error of the closets, and with it nothing else, whatever its other arguments are.
func TestErrorsOfTheClosets(t *testing.T) {
	for _, x := range changes() {
		c := example(dry(1, 35))
		x.to(&c)
		if e := closet.CheckCloset(c); e != x.want {
			t.Errorf("CheckCloset with %s: %v, not %v", x.name, e, x.want)
		}
		if x.want == api.OK {
			continue
		}
		for _, y := range calls() {
			if zero, e := y.of(c); e != x.want || !zero {
				t.Errorf("%s with %s: %v, not %v", y.name, x.name, e, x.want)
			}
		}
		for _, l := range [][]int{nil, list(0, 1), list(-1), list(0, 0, 0)} {
			if _, e := closet.Play(c, l, l); e != x.want {
				t.Errorf("Play of %v with %s: %v", l, x.name, e)
			}
			if _, e := closet.Bounds(c, l); e != x.want {
				t.Errorf("Bounds of %v with %s: %v", l, x.name, e)
			}
			if _, e := closet.Right(c, l, -1, 100); e != x.want {
				t.Errorf("Right of %v with %s: %v", l, x.name, e)
			}
			if _, e := closet.Good(c, l, 9); e != x.want {
				t.Errorf("Good of %v with %s: %v", l, x.name, e)
			}
			if _, e := closet.Stuck(c, l); e != x.want {
				t.Errorf("Stuck of %v with %s: %v", l, x.name, e)
			}
			if closet.ProveTruth(c, l) || closet.ProvePlace(c, l, 99) {
				t.Errorf("ProveTruth, ProvePlace of %v with %s", l, x.name)
			}
		}
		if closet.ProveTruth(c, firstDry(c)) || closet.ProvePlace(c, c.Hung, 99) {
			t.Errorf("ProveTruth, ProvePlace with %s", x.name)
		}
	}
}

// R1, R2: the calls that ask for a truth return ErrFalse, and nothing else, if there is none; the others do not.
func TestErrorsWithoutATruth(t *testing.T) {
	for _, c := range []closet.Closet{false2(), example(dry(0, 23)), example(damp(1, 36)), alone(horse(20, 20, 0, 0), 0, damp(0, 20)), graced(0, dry(1, 32))} {
		for _, y := range calls() {
			zero, e := y.of(c)
			if (e == api.ErrFalse) != y.truths || !y.truths && e != api.OK || y.truths && !zero {
				t.Errorf("%s of %v: %v", y.name, c, e)
			}
		}
		for _, numbers := range allDry(c) {
			if closet.ProveTruth(c, numbers) {
				t.Errorf("ProveTruth of %v, %v", c, numbers)
			}
		}
		for _, place := range placements(c) {
			if closet.ProvePlace(c, place, 99) {
				t.Errorf("ProvePlace of %v, %v", c, place)
			}
		}
	}
}

// badPlaces returns lists that are no placement of the closets of the examples.
func badPlaces() [][]int {
	return [][]int{nil, list(0), list(0, 0), list(2, 2), list(0, 3), list(3, 0), list(-1, 0), list(0, -1), list(0, 1, 2), list(0, 1, 1), list(0, math.MaxInt), list(math.MinInt, 0), make([]int, 1000)}
}

// R1, R2: what is no placement is ErrRange, also if there is no truth.
func TestErrorsOfPlacements(t *testing.T) {
	for _, c := range []closet.Closet{example(), false2(), graced(2)} {
		for _, place := range badPlaces() {
			if l, e := closet.Play(c, place, list(20, 30)); len(l) > 0 || e != api.ErrRange {
				t.Errorf("Play of %v, %v: %v, %v", c, place, l, e)
			}
			if l, e := closet.Bounds(c, place); len(l) > 0 || e != api.ErrRange {
				t.Errorf("Bounds of %v, %v: %v, %v", c, place, l, e)
			}
			if v, e := closet.Right(c, place, 0, 30); v != 0 || e != api.ErrRange {
				t.Errorf("Right of %v, %v: %d, %v", c, place, v, e)
			}
			if r, e := closet.Good(c, place, 1); r != (closet.Range{}) || e != api.ErrRange {
				t.Errorf("Good of %v, %v: %v, %v", c, place, r, e)
			}
			if n, e := closet.Stuck(c, place); n != 0 || e != api.ErrRange {
				t.Errorf("Stuck of %v, %v: %d, %v", c, place, n, e)
			}
			if closet.ProvePlace(c, place, 99) {
				t.Errorf("ProvePlace of %v, %v", c, place)
			}
		}
	}
}

// R1, R2: Play asks for a placement and dry numbers, but not about looks.
func TestErrorsOfPlay(t *testing.T) {
	for _, x := range []struct {
		c          closet.Closet
		place, dry []int
		want       api.Errno
	}{
		{example(), list(0, 1), list(20, 30), api.OK},
		{example(), list(2, 1), list(22, 33), api.OK},
		{false2(), list(0, 1), list(20, 30), api.OK},
		{example(), list(0, 1), list(19, 30), api.ErrRange},
		{example(), list(0, 1), list(23, 30), api.ErrRange},
		{example(), list(0, 1), list(20, 29), api.ErrRange},
		{example(), list(0, 1), list(20, 34), api.ErrRange},
		{example(), list(0, 1), list(30, 20), api.ErrRange},
		{example(), list(0, 1), list(20), api.ErrRange},
		{example(), list(0, 1), list(20, 30, 0), api.ErrRange},
		{example(), list(0, 1), list(20, 30, 0, 0, 0, 0), api.ErrRange},
		{example(), list(0, 1), list(20, math.MaxInt), api.ErrRange},
		{example(), list(0, 1), list(math.MinInt, 30), api.ErrRange},
		{example(), list(0, 1), nil, api.ErrRange},
		{false2(), list(0, 1), list(20, 34), api.ErrRange},
		{false2(), list(0, 0), list(20, 34), api.ErrRange},
		{small(), nil, nil, api.OK},
		{small(), list(0), nil, api.ErrRange},
		{small(), nil, list(0), api.ErrRange},
	} {
		l, e := closet.Play(x.c, x.place, x.dry)
		if e != x.want || e != api.OK && len(l) > 0 || e == api.OK && len(l) != len(x.c.Horses) {
			t.Errorf("Play of %v, %v, %v: %v, %v; not %v", x.c, x.place, x.dry, l, e, x.want)
		}
	}
}

// R1, R2: which horses and minutes there are, also if there is no truth or no good minute.
func TestErrorsOfRightAndGood(t *testing.T) {
	for _, x := range []struct {
		c             closet.Closet
		horse, minute int
		right, good   api.Errno
	}{
		{example(), 0, 0, api.OK, api.OK},
		{example(), 1, 99, api.OK, api.OK},
		{example(), 1, 100, api.ErrRange, api.OK},
		{example(), 1, -1, api.ErrRange, api.OK},
		{example(), 0, math.MaxInt, api.ErrRange, api.OK},
		{example(), 0, math.MinInt, api.ErrRange, api.OK},
		{example(), 2, 30, api.ErrRange, api.ErrRange},
		{example(), -1, 30, api.ErrRange, api.ErrRange},
		{example(), math.MaxInt, 30, api.ErrRange, api.ErrRange},
		{example(), math.MinInt, 30, api.ErrRange, api.ErrRange},
		{closing(30), 0, 31, api.OK, api.OK}, // it can be asked about minutes after Close
		{closing(30), 1, 99, api.OK, api.ErrShort},
		{closing(30), 1, 100, api.ErrRange, api.ErrShort},
		{graced(2), 1, 30, api.OK, api.ErrShort},
		{graced(2), 0, 30, api.OK, api.OK},
		{graced(2), 2, 30, api.ErrRange, api.ErrRange},
		{false2(), 1, 99, api.ErrFalse, api.ErrFalse},
		{false2(), 2, 99, api.ErrRange, api.ErrRange},
		{false2(), 1, 100, api.ErrRange, api.ErrFalse},
		{graced(2, dry(1, 32)), 1, 30, api.ErrFalse, api.ErrFalse},
	} {
		if v, e := closet.Right(x.c, x.c.Hung, x.horse, x.minute); e != x.right || (v == 0) != (e != api.OK) {
			t.Errorf("Right of %v, %d, %d: %d, %v; not %v", x.c, x.horse, x.minute, v, e, x.right)
		}
		if r, e := closet.Good(x.c, x.c.Hung, x.horse); e != x.good || (r == closet.Range{}) != (e != api.OK) {
			t.Errorf("Good of %v, %d: %v, %v; not %v", x.c, x.horse, r, e, x.good)
		}
	}
	if _, e := closet.Right(small(), nil, 0, 0); e != api.ErrRange {
		t.Errorf("Right of no horse: %v", e)
	}
	if _, e := closet.Good(small(), nil, 0); e != api.ErrRange {
		t.Errorf("Good of no horse: %v", e)
	}
}

// R1, R2: what there is not.
func TestErrorsOfStuckBestAskAndFirst(t *testing.T) {
	for _, x := range []struct {
		c                       closet.Closet
		stuck, best, ask, first api.Errno
	}{
		{example(), api.ErrNone, api.OK, api.OK, api.ErrNone},
		{graced(2), api.OK, api.ErrShort, api.OK, api.ErrNone},
		{closing(35), api.OK, api.OK, api.OK, api.ErrNone},
		{closing(32), api.OK, api.ErrShort, api.OK, api.ErrNone},
		{false2(), api.ErrFalse, api.ErrFalse, api.ErrFalse, api.OK},
		{graced(2, dry(1, 32)), api.ErrFalse, api.ErrFalse, api.ErrFalse, api.OK},
		{small(), api.ErrNone, api.OK, api.ErrNone, api.ErrNone},
		{alone(horse(20, 20, 0, 0), 0), api.OK, api.ErrShort, api.OK, api.ErrNone},
		{alone(horse(20, 20, 0, 0), 20), api.ErrNone, api.OK, api.OK, api.ErrNone},
		{closet.Closet{}, api.ErrArg, api.ErrArg, api.ErrArg, api.ErrArg},
	} {
		if n, e := closet.Stuck(x.c, x.c.Hung); e != x.stuck || e != api.OK && n != 0 {
			t.Errorf("Stuck of %v: %d, %v; not %v", x.c, n, e, x.stuck)
		}
		if l, done, e := closet.Best(x.c); e != x.best || e != api.OK && (len(l) > 0 || done != 0) {
			t.Errorf("Best of %v: %v, %d, %v; not %v", x.c, l, done, e, x.best)
		}
		if n, minute, left, e := closet.Ask(x.c); e != x.ask || e != api.OK && (n != 0 || minute != 0 || left != 0) {
			t.Errorf("Ask of %v: %d, %d, %d, %v; not %v", x.c, n, minute, left, e, x.ask)
		}
		if n, e := closet.First(x.c); e != x.first || e != api.OK && n != 0 {
			t.Errorf("First of %v: %d, %v; not %v", x.c, n, e, x.first)
		}
	}
}

// R3: nil and a list without elements are the same.
func TestNoElements(t *testing.T) {
	for _, c := range []closet.Closet{{Closets: 2, Close: 9}, {Closets: 2, Close: 9, Horses: []closet.Horse{}, Hung: []int{}, Looks: []closet.Look{}}} {
		if a := ask(t, c); len(a.place) > 0 || a.done != 0 || a.horse != -1 || len(leave(t, c)) > 0 {
			t.Errorf("answers of %v: %v", c, a)
		}
		for _, l := range [][]int{nil, {}} {
			if h := hang(t, c, l); len(h.bounds) > 0 || h.stuck != -1 {
				t.Errorf("answers of %v: %v", c, h)
			}
			if len(play(t, c, l, []int{})) > 0 || len(play(t, c, l, nil)) > 0 || !closet.ProveTruth(c, l) || !closet.ProvePlace(c, l, 0) || closet.ProvePlace(c, l, -1) {
				t.Errorf("Play, ProveTruth, ProvePlace of %v, %v", c, l)
			}
		}
	}
	for _, l := range [][]int{nil, {}} {
		c := example()
		c.Hung = l
		if e := closet.CheckCloset(c); e != api.ErrArg {
			t.Errorf("CheckCloset of %v: %v", c, e)
		}
		if _, e := closet.Bounds(example(), l); e != api.ErrRange {
			t.Errorf("Bounds of %v: %v", l, e)
		}
	}
	c := example()
	c.Looks = []closet.Look{}
	if a := ask(t, c); !slices.Equal(a.place, list(0, 2)) || len(leave(t, c)) > 0 {
		t.Errorf("answers of %v: %v", c, a)
	}
}

// roomy is the closets with their lists at the front of longer ones, so that what is written behind them shows.
func roomy(c closet.Closet) (of, all closet.Closet) {
	all = copied(c)
	all.Horses = append(all.Horses, horse(71, 72, 73, 74), horse(75, 76, 77, 78))
	all.Hung = append(all.Hung, 79, 80)
	all.Looks = append(all.Looks, dry(81, 82), damp(83, 84))
	of = all
	of.Horses, of.Hung, of.Looks = all.Horses[:len(c.Horses)], all.Hung[:len(c.Hung)], all.Looks[:len(c.Looks)]
	return of, all
}

func same(a, b closet.Closet) bool {
	return a.Closets == b.Closets && a.Close == b.Close && slices.Equal(a.Horses, b.Horses) && slices.Equal(a.Hung, b.Hung) && slices.Equal(a.Looks, b.Looks)
}

// R4: arguments are not written to, nor what lies behind them.
func TestArgumentsAreNotWrittenTo(t *testing.T) {
	for _, one := range []closet.Closet{example(dry(1, 35)), false2(), graced(2), small(), full()} {
		c, all := roomy(one)
		before := copied(all)
		for _, y := range calls() {
			y.of(c)
			if !same(all, before) || !same(c, one) {
				t.Fatalf("%s writes to its argument: %v, not %v", y.name, all, before)
			}
		}
		numbers, place := append(firstDry(c), 77, 78), append(slices.Clone(one.Hung), 79, 80)
		slices.Reverse(place[:len(c.Horses)])
		wantNumbers, wantPlace := slices.Clone(numbers), slices.Clone(place)
		asked := place[:len(c.Horses)]
		closet.Play(c, asked, numbers[:len(c.Horses)])
		closet.Bounds(c, asked)
		closet.Stuck(c, asked)
		closet.Good(c, asked, 0)
		closet.Right(c, asked, 0, 30)
		closet.ProvePlace(c, asked, 99)
		closet.ProveTruth(c, numbers[:len(c.Horses)])
		if !slices.Equal(numbers, wantNumbers) || !slices.Equal(place, wantPlace) || !same(all, before) {
			t.Errorf("a call writes to its arguments: %v, %v, %v", c, place, numbers)
		}
	}
}

// fill writes over all of the list's memory.
func fill[T any](l []T, with T) {
	l = l[:cap(l)]
	for i := range l {
		l[i] = with
	}
}

// R4: results share no memory with arguments, nor with the results of other calls.
func TestResultsHaveTheirOwnMemory(t *testing.T) {
	c, all := roomy(example(dry(1, 35), damp(1, 35), dry(0, 23)))
	right, rightAll := roomy(example(dry(1, 35)))
	before, rightBefore := copied(all), copied(rightAll)
	place, numbers := list(1, 0), list(21, 33)
	for range 3 {
		minutes := play(t, right, place, numbers)
		b, e := closet.Bounds(right, place)
		best, _, f := closet.Best(right)
		set := leave(t, c)
		if !slices.Equal(minutes, list(25, 36)) || !slices.Equal(b, ranges(24, 26, 33, 35)) || !slices.Equal(best, list(0, 2)) || !slices.Equal(set, list(0, 2)) || e != api.OK || f != api.OK {
			t.Fatalf("answers: %v; %v, %v; %v, %v; %v", minutes, b, e, best, f, set)
		}
		fill(minutes, -99)
		fill(b, to(-99, -99))
		fill(best, -99)
		fill(set, -99)
		if !same(all, before) || !same(rightAll, rightBefore) || !slices.Equal(place, list(1, 0)) || !slices.Equal(numbers, list(21, 33)) {
			t.Fatalf("a result is in an argument's memory: %v, %v, %v, %v", all, rightAll, place, numbers)
		}
	}
}

// P1: no call panics, whatever its arguments are.
func TestAnyArguments(t *testing.T) {
	numbers := list(0, 1, -1, 2, 3, 4, 5, 9, 10, 30, 31, 60, 61, 99, 100, math.MaxInt, math.MinInt)
	d := &dice{state: 3}
	number := func() int { return numbers[d.below(len(numbers))] }
	some := func() []int {
		return list(number(), number(), number(), number(), number(), number())[:d.below(7)]
	}
	for range 2000 {
		c := d.thrown(true)
		if d.below(6) == 0 {
			c.Closets = number()
		}
		if d.below(6) == 0 {
			c.Close = number()
		}
		if d.below(4) == 0 {
			c.Horses = append(c.Horses, horse(number(), number(), number(), number()))
		}
		if d.below(4) == 0 {
			c.Hung = some()
		}
		if d.below(4) == 0 {
			c.Looks = append(c.Looks, dry(number(), number()))
		}
		for _, y := range calls() {
			y.of(c)
		}
		closet.Play(c, some(), some())
		closet.Bounds(c, some())
		closet.Right(c, some(), number(), number())
		closet.Right(c, c.Hung, number(), number())
		closet.Good(c, some(), number())
		closet.Good(c, c.Hung, number())
		closet.Stuck(c, some())
		closet.ProveTruth(c, some())
		closet.ProvePlace(c, some(), number())
	}
}
