package ticket_test

import (
	"slices"

	"posser/ticket"
)

// What is here makes houses, and says by the chapter's definitions alone what is so in them: slowly, and with nothing of the package but its types.

func list(l ...int) []int { return l }

func to(lo, hi int) ticket.Range { return ticket.Range{Lo: lo, Hi: hi} }

func ranges(l ...int) []ticket.Range {
	var out []ticket.Range
	for i := 0; i < len(l); i += 2 {
		out = append(out, to(l[i], l[i+1]))
	}
	return out
}

func clip(of, clock, minute int) ticket.Clip {
	return ticket.Clip{Ticket: of, Clock: clock, Minute: minute}
}

func clips(c ...ticket.Clip) []ticket.Clip { return c }

// example is the house of the chapter's examples.
func example() ticket.House {
	return ticket.House{
		Hour: 60, Grace: 5,
		Clocks:  ranges(0, 0, -5, 5),
		Tickets: []ticket.Ticket{{Tub: 0, Hours: 1}, {Tub: 0, Hours: 2}},
		Clips:   clips(clip(0, 0, 300), clip(0, 1, 366), clip(1, 0, 365), clip(1, 1, 488)),
	}
}

// false4 is the house of the examples with a clip that cannot be true.
func false4() ticket.House {
	h := example()
	h.Tickets = append(h.Tickets, ticket.Ticket{Tub: 1})
	h.Clips = append(h.Clips, clip(2, 0, 360))
	return h
}

// right is a house with one clock, which is right, and tickets of the tub 0 with these Hours.
func right(hour, grace int, hours []int, c ...ticket.Clip) ticket.House {
	h := ticket.House{Hour: hour, Grace: grace, Clocks: ranges(0, 0), Clips: c}
	for _, n := range hours {
		h.Tickets = append(h.Tickets, ticket.Ticket{Hours: n})
	}
	return h
}

// full has as much of everything as is allowed: 4 clocks, 6 tickets, 10 clips, and 2000 errors of the clocks.
func full() ticket.House {
	return ticket.House{
		Hour: 120, Grace: 60,
		Clocks:  ranges(-30, -26, -3, 4, 21, 30, 0, 4),
		Tickets: []ticket.Ticket{{8, 9}, {8, 0}, {0, 1}, {8, 0}, {1, 2}, {0, 9}},
		Clips:   clips(clip(0, 0, 0), clip(1, 1, 32), clip(1, 2, 64), clip(0, 3, 36), clip(2, 1, 240), clip(2, 0, 421), clip(4, 3, 500), clip(3, 2, 600), clip(3, 1, 601), clip(5, 2, 1439)),
	}
}

// copied is the house in memory of its own.
func copied(h ticket.House) ticket.House {
	h.Clocks, h.Tickets, h.Clips = slices.Clone(h.Clocks), slices.Clone(h.Tickets), slices.Clone(h.Clips)
	return h
}

// dice throws the same numbers in each run.
type dice struct{ state uint64 }

// below returns a number from 0 to n less 1.
func (d *dice) below(n int) int {
	d.state = d.state*6364136223846793005 + 1442695040888963407
	return int(d.state>>33) % n
}

func (d *dice) from(lo, hi int) int { return lo + d.below(hi-lo+1) }

// thrown is a house whose clips are mostly as some truth has them; with noise some are not.
func (d *dice) thrown(noise bool) ticket.House {
	h := ticket.House{Hour: d.from(1, 12), Grace: d.below(6)}
	var off []int
	for size := 1; len(h.Clocks) < 1 || len(h.Clocks) < 4 && d.below(3) > 0; {
		lo, more := d.from(-30, 20), d.below(11)
		if size*(more+1) > 300 { // so that the tests are soon done
			more = 0
		}
		size *= more + 1
		h.Clocks = append(h.Clocks, to(lo, lo+more))
		off = append(off, d.from(lo, lo+more))
	}
	for range d.from(1, 6) {
		h.Tickets = append(h.Tickets, ticket.Ticket{Tub: d.below(2) * 8, Hours: d.below(4)})
	}
	minute := d.from(30, 60)
	if d.below(4) == 0 { // so that some true minutes are below 0
		minute = d.from(-5, 20)
	}
	many := map[int]int{}
	for range d.below(14) {
		of, clock := d.below(len(h.Tickets)), d.below(len(h.Clocks))
		if many[of] == 2 || len(h.Clips) == 10 {
			continue
		}
		many[of]++
		minute += d.below(9)
		shown := minute + off[clock]
		if noise && d.below(2) == 0 {
			shown += d.from(-20, 20)
		}
		h.Clips = append(h.Clips, clip(of, clock, min(max(shown, 0), 1439)))
	}
	return h
}

// many returns houses: the ones of the examples, the full one, small ones, and thrown ones.
func many(n int) []ticket.House {
	out := []ticket.House{example(), false4(), full(), {Hour: 1}, right(60, 0, nil), right(60, 0, list(1, 2))}
	d := &dice{state: 7}
	for i := range n {
		out = append(out, d.thrown(i%2 == 0))
	}
	return out
}

// truthful returns those of many houses that have a truth.
func truthful(n int) []ticket.House {
	return slices.DeleteFunc(many(n), func(h ticket.House) bool { return len(truths(h)) == 0 })
}

// allErrors returns all errors of the clocks.
func allErrors(clocks []ticket.Range) [][]int {
	out := [][]int{{}}
	for _, c := range clocks {
		var longer [][]int
		for _, l := range out {
			for off := c.Lo; off <= c.Hi; off++ {
				longer = append(longer, append(slices.Clone(l), off))
			}
		}
		out = longer
	}
	return out
}

func minutes(h ticket.House, errors []int) []int {
	var out []int
	for _, c := range h.Clips {
		out = append(out, c.Minute-errors[c.Clock])
	}
	return out
}

// falls reports whether some number is smaller than one before it, those whose bit in left is set aside.
func falls(l []int, left int) bool {
	for i := range l {
		for j := range i {
			if left>>i&1 == 0 && left>>j&1 == 0 && l[i] < l[j] {
				return true
			}
		}
	}
	return false
}

// truths returns the errors of the clocks that are a truth.
func truths(h ticket.House) [][]int {
	return slices.DeleteFunc(allErrors(h.Clocks), func(l []int) bool { return falls(minutes(h, l), 0) })
}

// stays returns the true minutes of the clips of a ticket.
func stays(h ticket.House, errors []int, of int) []int {
	var out []int
	for n, m := range minutes(h, errors) {
		if h.Clips[n].Ticket == of {
			out = append(out, m)
		}
	}
	return out
}

func hours(h ticket.House, errors []int, of int) int {
	s := stays(h, errors, of)
	if len(s) < 2 {
		return 0
	}
	out := 0
	for out*h.Hour < s[1]-s[0]-h.Grace {
		out++
	}
	return out
}

func clash(h ticket.House, errors []int, one, other int) bool {
	a, b := stays(h, errors, one), stays(h, errors, other)
	if h.Tickets[one].Tub != h.Tickets[other].Tub || len(a) == 0 || len(b) == 0 {
		return false
	}
	return (len(b) == 1 || a[0] < b[1]) && (len(a) == 1 || b[0] < a[1])
}

func long(h ticket.House, errors []int, of int) bool {
	return hours(h, errors, of) > h.Tickets[of].Hours
}

func paid(h ticket.House, errors []int) bool {
	for i := range h.Tickets {
		if long(h, errors, i) {
			return false
		}
		for j := range h.Tickets {
			if i != j && clash(h, errors, i, j) {
				return false
			}
		}
	}
	return true
}

func free(h ticket.House, errors []int, tub int) int {
	out := 0
	for i, t := range h.Tickets {
		if s := stays(h, errors, i); t.Tub == tub && len(s) == 2 && s[1] > out {
			out = s[1]
		}
	}
	return out
}

// inUse reports whether a ticket of the tub has just one clip.
func inUse(h ticket.House, tub int) bool {
	for i, t := range h.Tickets {
		n := 0
		for _, c := range h.Clips {
			if c.Ticket == i {
				n++
			}
		}
		if t.Tub == tub && n == 1 {
			return true
		}
	}
	return false
}

// bounds returns the range of what the truths give.
func bounds(truths [][]int, of func(errors []int) int) ticket.Range {
	var all []int
	for _, errors := range truths {
		all = append(all, of(errors))
	}
	return to(slices.Min(all), slices.Max(all))
}

// verdict returns in which of the truths something is so.
func verdict(truths [][]int, is func(errors []int) bool) int {
	n := 0
	for _, errors := range truths {
		if is(errors) {
			n++
		}
	}
	switch n {
	case len(truths):
		return ticket.Always
	case 0:
		return ticket.Never
	}
	return ticket.Perhaps
}

// left returns what a comparison of a clock leaves of the truths.
func left(truths [][]int, clock int) int {
	out := 0
	for _, one := range truths {
		n := 0
		for _, other := range truths {
			if one[clock] == other[clock] {
				n++
			}
		}
		out = max(out, n)
	}
	return out
}

// sets returns all increasing lists of clips: shorter ones first, and those of a length lexicographically.
func sets(h ticket.House) [][]int {
	var out [][]int
	for bits := range 1 << len(h.Clips) {
		l := []int{}
		for n := range h.Clips {
			if bits>>n&1 == 1 {
				l = append(l, n)
			}
		}
		out = append(out, l)
	}
	slices.SortFunc(out, func(a, b []int) int {
		if len(a) != len(b) {
			return len(a) - len(b)
		}
		return slices.Compare(a, b)
	})
	return out
}

// canLeave reports whether the clips can be left out together.
func canLeave(h ticket.House, set []int) bool {
	bits := 0
	for _, n := range set {
		bits |= 1 << n
	}
	for _, errors := range allErrors(h.Clocks) {
		if !falls(minutes(h, errors), bits) {
			return true
		}
	}
	return false
}

// without is the house without some of its clips.
func without(h ticket.House, set []int) ticket.House {
	var kept []ticket.Clip
	for n, c := range h.Clips {
		if !slices.Contains(set, n) {
			kept = append(kept, c)
		}
	}
	h.Clips = kept
	return h
}

// known is the house with the error of a clock known.
func known(h ticket.House, clock, off int) ticket.House {
	h = copied(h)
	h.Clocks[clock] = to(off, off)
	return h
}
