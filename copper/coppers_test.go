package copper_test

import (
	"slices"

	"posser/copper"
)

// What is here makes coppers, and says by the chapter's definitions alone what is so in them: slowly, and with nothing of the package but its types.

func list(l ...int) []int { return l }

func to(lo, hi int) copper.Range { return copper.Range{Lo: lo, Hi: hi} }

func ranges(l ...int) []copper.Range {
	var out []copper.Range
	for i := 0; i < len(l); i += 2 {
		out = append(out, to(l[i], l[i+1]))
	}
	return out
}

func reading(hour, lo, hi int) copper.Reading {
	return copper.Reading{Hour: hour, Buckets: to(lo, hi)}
}

func truth(heat int, loss ...int) copper.Truth { return copper.Truth{Heat: heat, Loss: loss} }

// example are the coppers of the chapter's examples, with readings.
func example(l ...copper.Reading) copper.Copper {
	return copper.Copper{
		Last: 2, Start: 7, Most: 60, Per: 4, Shovels: 3,
		Coal: list(2, 1, 0), Want: list(3, 2, 2),
		Heat: to(10, 12), Loss: ranges(2, 3, 4, 4, 0, 2),
		Readings: l,
	}
}

// promised are the coppers of the examples with another Want.
func promised(want ...int) copper.Copper {
	c := example()
	c.Want = want
	return c
}

// false2 are the coppers of the examples with the readings 0 to 2, which have no truth.
func false2() copper.Copper { return example(reading(0, 6, 6), reading(2, 3, 3), reading(0, 7, 7)) }

// small has as little of everything as is allowed.
func small() copper.Copper {
	return copper.Copper{Per: 1, Coal: list(0), Want: list(0), Loss: ranges(0, 0)}
}

// full has as much of everything as is allowed, and 2000 truths.
func full() copper.Copper {
	return copper.Copper{
		Last: 4, Start: 999, Most: 999, Per: 20, Shovels: 3,
		Coal: list(3, 0, 3, 3, 1), Want: list(20, 18, 12, 10, 6),
		Heat: to(90, 99), Loss: ranges(80, 99, 95, 99, 99, 99, 98, 99, 0, 0),
		Readings: []copper.Reading{reading(0, 45, 45), reading(1, 0, 999), reading(2, 11, 13), reading(4, 0, 99), reading(0, 44, 46)},
	}
}

// exact are coppers of one hour, one bucket of 4 and one truth, with so much heat and so many promised.
func exact(start, want int) copper.Copper {
	return copper.Copper{Start: start, Most: 60, Per: 4, Coal: list(0), Want: list(want), Loss: ranges(0, 0)}
}

// copied is the coppers in memory of their own.
func copied(c copper.Copper) copper.Copper {
	c.Coal, c.Want, c.Loss, c.Readings = slices.Clone(c.Coal), slices.Clone(c.Want), slices.Clone(c.Loss), slices.Clone(c.Readings)
	return c
}

// dice throws the same numbers in each run.
type dice struct{ state uint64 }

// below returns a number from 0 to n less 1.
func (d *dice) below(n int) int {
	d.state = d.state*6364136223846793005 + 1442695040888963407
	return int(d.state>>33) % n
}

func (d *dice) from(lo, hi int) int { return lo + d.below(hi-lo+1) }

// around is a range of a few numbers, so many at most, from the limit up.
func (d *dice) around(limit, most int, size *int) copper.Range {
	lo, more := d.from(limit, most), d.below(4)
	if *size*(more+1) > 60 { // so that the tests are soon done
		more = 0
	}
	*size *= more + 1
	return to(lo, lo+more)
}

// thrown is coppers whose readings are as some truth has them; with noise some are not.
func (d *dice) thrown(noise bool) copper.Copper {
	c := copper.Copper{Last: d.below(5), Most: d.from(20, 60), Per: d.from(1, 4), Shovels: d.from(1, 3)}
	if d.below(4) == 0 { // so that some heat is lost
		c.Most = d.from(0, 15)
	}
	c.Start = d.below(min(c.Most, 12) + 1)
	size := 1
	c.Heat = d.around(3, 14, &size)
	for range c.Last + 1 {
		c.Loss = append(c.Loss, d.around(0, 9, &size))
		c.Coal = append(c.Coal, d.below(c.Shovels+1))
	}
	d.promise(&c)
	all := allTruths(c)
	some := day(c, c.Coal, c.Want, all[d.below(len(all))])
	for range d.below(4) {
		hour, wide := d.below(c.Last+1), d.below(3)
		lo := max(some.hot[hour]-d.below(wide+1), 0)
		if noise && d.below(2) == 0 {
			lo = d.below(10)
		}
		c.Readings = append(c.Readings, reading(hour, lo, lo+wide))
	}
	return c
}

// promise gives the coppers a Want of about as many buckets as are hot in some truth, so that verdicts differ.
func (d *dice) promise(c *copper.Copper) {
	all := allTruths(*c)
	some := all[d.below(len(all))]
	c.Want = make([]int, c.Last+1)
	for hour := range c.Want {
		hot := day(*c, c.Coal, c.Want, some).hot[hour]
		c.Want[hour] = min(max(hot+1-d.below(4), 0), 20)
		if d.below(3) == 0 {
			c.Want[hour] = d.below(3)
		}
	}
}

// many returns coppers: those of the examples, small, full and exact ones, and thrown ones.
func many(n int) []copper.Copper {
	out := []copper.Copper{example(), example(reading(0, 6, 6), reading(2, 3, 3)), promised(3, 2, 3), promised(9, 2, 2), false2(), small(), exact(8, 2), exact(7, 2)}
	d := &dice{state: 7}
	for i := range n {
		out = append(out, d.thrown(i%2 == 0))
	}
	return out
}

// truthful returns those of many coppers that have a truth.
func truthful(n int) []copper.Copper {
	return slices.DeleteFunc(many(n), func(c copper.Copper) bool { return len(truths(c)) == 0 })
}

// allTruths returns the truths in which readings may be wrong.
func allTruths(c copper.Copper) []copper.Truth {
	var out []copper.Truth
	for heat := c.Heat.Lo; heat <= c.Heat.Hi; heat++ {
		out = append(out, truth(heat))
	}
	for _, r := range c.Loss {
		var longer []copper.Truth
		for _, t := range out {
			for n := r.Lo; n <= r.Hi; n++ {
				longer = append(longer, truth(t.Heat, append(slices.Clone(t.Loss), n)...))
			}
		}
		out = longer
	}
	return out
}

// played is what is so in each hour.
type played struct {
	hot, left []int
	kept      []bool
}

// day goes through the hours shovel by shovel, and bucket by bucket.
func day(c copper.Copper, coal, want []int, t copper.Truth) played {
	var out played
	heat := c.Start
	for hour, takes := range t.Loss {
		for range coal[hour] {
			heat += t.Heat
		}
		for heat > c.Most {
			heat--
		}
		for takes > 0 && heat > 0 {
			heat, takes = heat-1, takes-1
		}
		hot := 0
		for (hot+1)*c.Per <= heat {
			hot++
		}
		out.hot, out.kept = append(out.hot, hot), append(out.kept, hot >= want[hour])
		if hot < want[hour] {
			heat = 0
		}
		for drawn := 0; heat > 0 && drawn < want[hour]; drawn++ {
			heat -= c.Per
		}
		out.left = append(out.left, heat)
	}
	return out
}

// areRight reports whether the readings are right in a truth, those whose bit in left is set aside.
func areRight(c copper.Copper, t copper.Truth, left int) bool {
	p := day(c, c.Coal, c.Want, t)
	for n, r := range c.Readings {
		if left>>n&1 == 0 && (p.hot[r.Hour] < r.Buckets.Lo || p.hot[r.Hour] > r.Buckets.Hi) {
			return false
		}
	}
	return true
}

// truths returns the truths of the coppers.
func truths(c copper.Copper) []copper.Truth {
	return slices.DeleteFunc(allTruths(c), func(t copper.Truth) bool { return !areRight(c, t, 0) })
}

// areKept reports whether the promise of each hour is kept in a truth.
func areKept(c copper.Copper, coal, want []int, t copper.Truth) bool {
	return !slices.Contains(day(c, coal, want, t).kept, false)
}

// isSure reports whether coal is sure in these truths.
func isSure(c copper.Copper, coal []int, all []copper.Truth) bool {
	return !slices.ContainsFunc(all, func(t copper.Truth) bool { return !areKept(c, coal, c.Want, t) })
}

// plus is the list with the numbers of the other one added.
func plus(l, more []int) []int {
	out := slices.Clone(l)
	for i, n := range more {
		out[i] += n
	}
	return out
}

// only is a list for the hours of the coppers with a number in one of them, and 0 in the others.
func only(c copper.Copper, hour, n int) []int {
	out := make([]int, c.Last+1)
	out[hour] = n
	return out
}

func sum(l []int) int {
	out := 0
	for _, n := range l {
		out += n
	}
	return out
}

// allCoal returns all lists of shovels: fewer ones first, and those of as many lexicographically.
func allCoal(c copper.Copper) [][]int {
	out := [][]int{{}}
	for range c.Last + 1 {
		var longer [][]int
		for _, l := range out {
			for n := range c.Shovels + 1 {
				longer = append(longer, append(slices.Clone(l), n))
			}
		}
		out = longer
	}
	slices.SortFunc(out, func(a, b []int) int {
		if sum(a) != sum(b) {
			return sum(a) - sum(b)
		}
		return slices.Compare(a, b)
	})
	return out
}

// bounds returns the range of what the truths give.
func bounds(all []copper.Truth, of func(t copper.Truth) int) copper.Range {
	var out []int
	for _, t := range all {
		out = append(out, of(t))
	}
	return to(slices.Min(out), slices.Max(out))
}

// verdict returns in which of the truths something is so.
func verdict(all []copper.Truth, is func(t copper.Truth) bool) int {
	n := 0
	for _, t := range all {
		if is(t) {
			n++
		}
	}
	switch n {
	case len(all):
		return copper.Always
	case 0:
		return copper.Never
	}
	return copper.Perhaps
}

// sets returns all increasing lists of readings: shorter ones first, and those of a length lexicographically.
func sets(c copper.Copper) [][]int {
	var out [][]int
	for bits := range 1 << len(c.Readings) {
		l := []int{}
		for n := range c.Readings {
			if bits>>n&1 == 1 {
				l = append(l, n)
			}
		}
		out = append(out, l)
	}
	slices.SortFunc(out, func(a, b []int) int {
		if len(a) != len(b) {
			return len(a) - len(b)
		}
		return slices.Compare(a, b)
	})
	return out
}

// canLeave reports whether the readings can be left out together.
func canLeave(c copper.Copper, set []int) bool {
	bits := 0
	for _, n := range set {
		bits |= 1 << n
	}
	return slices.ContainsFunc(allTruths(c), func(t copper.Truth) bool { return areRight(c, t, bits) })
}

// without is the coppers without some of their readings.
func without(c copper.Copper, set []int) copper.Copper {
	var kept []copper.Reading
	for n, r := range c.Readings {
		if !slices.Contains(set, n) {
			kept = append(kept, r)
		}
	}
	c.Readings = kept
	return c
}
