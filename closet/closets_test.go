package closet_test

import (
	"slices"

	"posser/closet"
)

// What is here makes closets, and says by the chapter's definitions alone what is so in them: slowly, and with nothing of the package but its types.

func list(l ...int) []int { return l }

func to(lo, hi int) closet.Range { return closet.Range{Lo: lo, Hi: hi} }

func ranges(l ...int) []closet.Range {
	var out []closet.Range
	for i := 0; i < len(l); i += 2 {
		out = append(out, to(l[i], l[i+1]))
	}
	return out
}

func horse(lo, hi, wet, grace int) closet.Horse {
	return closet.Horse{Dry: to(lo, hi), Wet: wet, Grace: grace}
}

func dry(horse, minute int) closet.Look {
	return closet.Look{Horse: horse, Minute: minute, Dry: true}
}

func damp(horse, minute int) closet.Look { return closet.Look{Horse: horse, Minute: minute} }

// example are the closets of the chapter's examples, with looks.
func example(l ...closet.Look) closet.Closet {
	return closet.Closet{
		Closets: 3, Close: 60,
		Horses: []closet.Horse{horse(20, 22, 3, 5), horse(30, 33, 4, 4)},
		Hung:   list(0, 1),
		Looks:  l,
	}
}

// graced are the closets of the examples with another Grace of the horse 1.
func graced(grace int, l ...closet.Look) closet.Closet {
	c := example(l...)
	c.Horses[1].Grace = grace
	return c
}

// closing are the closets of the examples with another Close.
func closing(minute int) closet.Closet {
	c := example()
	c.Close = minute
	return c
}

// false2 are the closets of the examples with looks that have no truth.
func false2() closet.Closet { return example(dry(0, 24), damp(0, 24)) }

// small has as little of everything as is allowed.
func small() closet.Closet { return closet.Closet{Closets: 1} }

// alone is one closet with one horse.
func alone(h closet.Horse, minute int, l ...closet.Look) closet.Closet {
	return closet.Closet{Closets: 1, Close: minute, Horses: []closet.Horse{h}, Hung: list(0), Looks: l}
}

// row are closets that are full, in the order of the horses.
func row(h ...closet.Horse) closet.Closet {
	c := closet.Closet{Closets: len(h), Close: 99, Horses: h}
	for n := range h {
		c.Hung = append(c.Hung, n)
	}
	return c
}

// full has as much of everything as is allowed, and 2000 dry numbers.
func full() closet.Closet {
	return closet.Closet{
		Closets: 4, Close: 99,
		Horses: []closet.Horse{horse(51, 60, 9, 30), horse(56, 60, 9, 30), horse(1, 40, 9, 30), horse(60, 60, 9, 30)},
		Hung:   list(3, 1, 0, 2),
		Looks:  []closet.Look{damp(3, 77), dry(3, 78), dry(1, 76), damp(2, 30), dry(0, 99)},
	}
}

// copied is the closets in memory of their own.
func copied(c closet.Closet) closet.Closet {
	c.Horses, c.Hung, c.Looks = slices.Clone(c.Horses), slices.Clone(c.Hung), slices.Clone(c.Looks)
	return c
}

// dice throws the same numbers in each run.
type dice struct{ state uint64 }

// below returns a number from 0 to n less 1.
func (d *dice) below(n int) int {
	d.state = d.state*6364136223846793005 + 1442695040888963407
	return int(d.state>>33) % n
}

func (d *dice) from(lo, hi int) int { return lo + d.below(hi-lo+1) }

// thrown is closets whose looks are as some dry numbers have them; with noise some are not.
func (d *dice) thrown(noise bool) closet.Closet {
	c := closet.Closet{Closets: d.from(1, 4), Close: d.from(15, 45)}
	size := 1
	for range min(d.below(6), c.Closets) {
		lo, more := d.from(1, 25), d.below(5)
		if size*(more+1) > 60 { // so that the tests are soon done
			more = 0
		}
		size *= more + 1
		c.Horses = append(c.Horses, horse(lo, lo+more, d.below(10), d.below(9)))
	}
	all := placements(c)
	c.Hung = all[d.below(len(all))]
	if len(c.Horses) == 0 {
		return c
	}
	some := allDry(c)
	minutes := dryMinutes(c, c.Hung, some[d.below(len(some))])
	for range d.below(5) {
		n := d.below(len(c.Horses))
		minute := max(minutes[n]+d.from(-3, 3), 0)
		c.Looks = append(c.Looks, closet.Look{Horse: n, Minute: minute, Dry: minute >= minutes[n] != (noise && d.below(3) == 0)})
	}
	return c
}

// many returns closets: those of the examples, small, full and lonely ones, and thrown ones.
func many(n int) []closet.Closet {
	out := []closet.Closet{
		example(), graced(2), graced(2, dry(1, 35)), closing(36), closing(35), closing(0), false2(),
		example(dry(1, 35), damp(1, 34), damp(1, 36)), small(), alone(horse(3, 7, 9, 4), 99), alone(horse(60, 60, 0, 0), 60), alone(horse(1, 1, 0, 30), 20),
	}
	d := &dice{state: 7}
	for i := range n {
		out = append(out, d.thrown(i%2 == 0))
	}
	return out
}

// truthful returns those of many closets that have a truth.
func truthful(n int) []closet.Closet {
	return slices.DeleteFunc(many(n), func(c closet.Closet) bool { return len(truths(c)) == 0 })
}

// longer returns the lists with each of these numbers behind each of them.
func longer(lists [][]int, numbers closet.Range) [][]int {
	var out [][]int
	for _, l := range lists {
		for n := numbers.Lo; n <= numbers.Hi; n++ {
			out = append(out, append(slices.Clone(l), n))
		}
	}
	return out
}

// allDry returns the dry numbers, the lexicographically first ones first.
func allDry(c closet.Closet) [][]int {
	out := [][]int{{}}
	for _, h := range c.Horses {
		out = longer(out, h.Dry)
	}
	return out
}

// placements returns the placements, the lexicographically first ones first.
func placements(c closet.Closet) [][]int {
	out := [][]int{{}}
	for range c.Horses {
		out = longer(out, to(0, c.Closets-1))
	}
	return slices.DeleteFunc(out, func(l []int) bool {
		l = slices.Sorted(slices.Values(l))
		return len(slices.Compact(l)) < len(c.Horses)
	})
}

// dryMinutes returns the dry minute of each horse.
func dryMinutes(c closet.Closet, place, dry []int) []int {
	out := slices.Clone(dry)
	for n := range c.Horses {
		for other, h := range c.Horses {
			if place[other] == place[n]+1 {
				out[n] += h.Wet
			}
			if place[other]+1 == place[n] {
				out[n] += h.Wet
			}
		}
	}
	return out
}

// areRight reports whether the looks are right with some dry numbers, those whose bit in left is set aside.
func areRight(c closet.Closet, dry []int, left int) bool {
	minutes := dryMinutes(c, c.Hung, dry)
	for n, l := range c.Looks {
		if left>>n&1 == 0 && (minutes[l.Horse] <= l.Minute) != l.Dry {
			return false
		}
	}
	return true
}

// truths returns the truths of the closets.
func truths(c closet.Closet) [][]int {
	return slices.DeleteFunc(allDry(c), func(dry []int) bool { return !areRight(c, dry, 0) })
}

// played returns for each truth the dry minutes with the placement.
func played(c closet.Closet, place []int, all [][]int) [][]int {
	var out [][]int
	for _, dry := range all {
		out = append(out, dryMinutes(c, place, dry))
	}
	return out
}

// isRight reports whether it is right to take the horse out in the minute, with these dry minutes.
func isRight(c closet.Closet, minutes []int, horse, minute int) bool {
	return minute >= minutes[horse] && minute-minutes[horse] <= c.Horses[horse].Grace
}

// bounds returns the range of what the truths give.
func bounds(all [][]int, horse int) closet.Range {
	var out []int
	for _, l := range all {
		out = append(out, l[horse])
	}
	return to(slices.Min(out), slices.Max(out))
}

// verdict returns in which of the truths it is right.
func verdict(c closet.Closet, all [][]int, horse, minute int) int {
	n := 0
	for _, minutes := range all {
		if isRight(c, minutes, horse, minute) {
			n++
		}
	}
	switch n {
	case len(all):
		return closet.Always
	case 0:
		return closet.Never
	}
	return closet.Perhaps
}

// good returns the good minutes of a horse, one by one.
func good(c closet.Closet, all [][]int, horse int) []int {
	var out []int
	for minute := 0; minute <= c.Close; minute++ {
		if verdict(c, all, horse, minute) == closet.Always {
			out = append(out, minute)
		}
	}
	return out
}

// none stands for the minutes of a horse that has no good one.
var none = closet.Range{Lo: 1, Hi: 0}

// goodRange returns the good minutes of a horse as a range, or none.
func goodRange(c closet.Closet, all [][]int, horse int) closet.Range {
	l := good(c, all, horse)
	if len(l) == 0 {
		return none
	}
	return to(l[0], l[len(l)-1])
}

// doneIn returns when the placement is done, or -1 if it is not good.
func doneIn(c closet.Closet, place []int, truths [][]int) int {
	all, last := played(c, place, truths), 0
	for n := range c.Horses {
		l := good(c, all, n)
		if len(l) == 0 {
			return -1
		}
		last = max(last, l[0])
	}
	return last
}

// leaves returns how many truths a look leaves.
func leaves(c closet.Closet, truths [][]int, horse, minute int) int {
	isDry := 0
	for _, minutes := range played(c, c.Hung, truths) {
		if minutes[horse] <= minute {
			isDry++
		}
	}
	return max(isDry, len(truths)-isDry)
}

// sets returns all increasing lists of looks: shorter ones first, and those of a length lexicographically.
func sets(c closet.Closet) [][]int {
	var out [][]int
	for bits := range 1 << len(c.Looks) {
		l := []int{}
		for n := range c.Looks {
			if bits>>n&1 == 1 {
				l = append(l, n)
			}
		}
		out = append(out, l)
	}
	slices.SortFunc(out, func(a, b []int) int {
		if len(a) != len(b) {
			return len(a) - len(b)
		}
		return slices.Compare(a, b)
	})
	return out
}

// canLeave reports whether the looks can be left out together.
func canLeave(c closet.Closet, set []int) bool {
	bits := 0
	for _, n := range set {
		bits |= 1 << n
	}
	return slices.ContainsFunc(allDry(c), func(dry []int) bool { return areRight(c, dry, bits) })
}

// without is the closets without some of their looks.
func without(c closet.Closet, set []int) closet.Closet {
	var kept []closet.Look
	for n, l := range c.Looks {
		if !slices.Contains(set, n) {
			kept = append(kept, l)
		}
	}
	c.Looks = kept
	return c
}
