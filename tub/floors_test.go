package tub_test

import (
	"slices"

	"posser/ticket"
	"posser/tub"
)

// What is here makes floors, and says by the chapter's definitions alone what is so on them: slowly, and with nothing of the packages but their types.

func list(l ...int) []int { return l }

func lists(l ...[]int) [][]int { return l }

func to(lo, hi int) tub.Range { return tub.Range{Lo: lo, Hi: hi} }

func ranges(l ...int) []tub.Range {
	var out []tub.Range
	for i := 0; i < len(l); i += 2 {
		out = append(out, to(l[i], l[i+1]))
	}
	return out
}

func clip(of, clock, minute int) ticket.Clip {
	return ticket.Clip{Ticket: of, Clock: clock, Minute: minute}
}

// example is the floor of the chapter's examples.
func example() tub.Floor {
	return tub.Floor{
		House: ticket.House{
			Hour: 60, Grace: 5,
			Clocks:  []ticket.Range{{Lo: 0, Hi: 0}, {Lo: -5, Hi: 5}},
			Tickets: []ticket.Ticket{{Tub: 0, Hours: 1}, {Tub: 0, Hours: 2}},
			Clips:   []ticket.Clip{clip(0, 0, 300), clip(0, 1, 366), clip(1, 0, 365), clip(1, 1, 488)},
		},
		Tubs: 2, Open: 480, Closing: 560, Queue: ranges(40, 50, 20, 30, 30, 40),
	}
}

// changed is the floor of the examples with other Tubs, and another Closing.
func changed(tubs, closing int) tub.Floor {
	f := example()
	f.Tubs, f.Closing = tubs, closing
	return f
}

// plain has tubs that are free from the minute 100 on, and women who wash for so many minutes.
func plain(tubs, closing int, minutes ...int) tub.Floor {
	f := tub.Floor{House: ticket.House{Hour: 60}, Tubs: tubs, Open: 100, Closing: closing}
	for _, n := range minutes {
		f.Queue = append(f.Queue, to(n, n))
	}
	return f
}

// clipped has tubs that become free in known minutes, and are in use if it is -1.
func clipped(closing int, queue []tub.Range, from ...int) tub.Floor {
	f := tub.Floor{House: ticket.House{Hour: 60, Clocks: []ticket.Range{{}}}, Tubs: len(from), Closing: closing, Queue: queue}
	for n := range from {
		f.House.Tickets = append(f.House.Tickets, ticket.Ticket{Tub: n})
		f.House.Clips = append(f.House.Clips, clip(n, 0, 0))
	}
	minute := 0
	for range from { // clips are in the order of their minutes
		next := -1
		for n, m := range from {
			if m >= 0 && len(clipsOf(f.House, n)) == 1 && (next < 0 || m < from[next]) {
				next = n
			}
		}
		if next >= 0 {
			minute = from[next]
			f.House.Clips = append(f.House.Clips, clip(next, 0, minute))
		}
	}
	return f
}

// inUse is a floor all of whose tubs are in use.
func inUse() tub.Floor { return clipped(500, ranges(1, 2, 3, 4), -1, -1) }

// full has as much of everything as is allowed: 4 tubs, 5 women, and a full House.
func full() tub.Floor {
	return tub.Floor{
		House: ticket.House{
			Hour: 120, Grace: 60,
			Clocks:  []ticket.Range{{Lo: -30, Hi: -26}, {Lo: -3, Hi: 4}, {Lo: 21, Hi: 30}, {Lo: 0, Hi: 4}},
			Tickets: []ticket.Ticket{{Tub: 3, Hours: 9}, {Tub: 3}, {Tub: 0, Hours: 1}, {Tub: 8}, {Tub: 1, Hours: 2}, {Tub: 2, Hours: 9}},
			Clips:   []ticket.Clip{clip(0, 0, 0), clip(1, 1, 32), clip(1, 2, 64), clip(0, 3, 36), clip(2, 1, 240), clip(2, 0, 421), clip(4, 3, 500), clip(4, 2, 600), clip(5, 1, 601), clip(5, 2, 1439)},
		},
		Tubs: 4, Open: 430, Closing: 1439, Queue: ranges(0, 240, 240, 240, 0, 0, 17, 100, 100, 239),
	}
}

// copied is the floor in memory of its own.
func copied(f tub.Floor) tub.Floor {
	f.House.Clocks, f.House.Tickets, f.House.Clips = slices.Clone(f.House.Clocks), slices.Clone(f.House.Tickets), slices.Clone(f.House.Clips)
	f.Queue = slices.Clone(f.Queue)
	return f
}

// dice throws the same numbers in each run.
type dice struct{ state uint64 }

// below returns a number from 0 to n less 1.
func (d *dice) below(n int) int {
	d.state = d.state*6364136223846793005 + 1442695040888963407
	return int(d.state>>33) % n
}

func (d *dice) from(lo, hi int) int { return lo + d.below(hi-lo+1) }

// thrown is a floor with few truths, so that the tests are soon done; many numbers in it are the same.
func (d *dice) thrown() tub.Floor {
	f := tub.Floor{House: d.house(), Tubs: 1 + d.below(4), Open: d.from(20, 70)}
	if many := len(f.House.Clips); many > 0 && d.below(2) == 0 { // so that it opens when a tub may become free
		f.Open = min(max(f.House.Clips[d.below(many)].Minute+d.from(-8, 8), 0), 90)
	}
	size, all := 1, 0
	for _, r := range freeRanges(f) {
		size *= r.Hi - r.Lo + 1
	}
	step := 1 + 4*d.below(2)
	for range max(d.below(6), d.below(4)) {
		lo, more := d.below(5)*step, d.below(3)
		if size*(more+1) > 60 {
			more = 0
		}
		size *= more + 1
		all += lo
		f.Queue = append(f.Queue, to(lo, lo+more))
	}
	f.Closing = f.Open + d.below(all+8)
	if d.below(3) == 0 {
		f.Closing = f.Open + all/f.Tubs + d.below(6)
	}
	return f
}

// house throws one that has a truth, and few minutes from which on a tub is free.
func (d *dice) house() ticket.House {
	h := ticket.House{Hour: 60}
	var off []int
	for range 1 + d.below(3) {
		lo, more := d.from(-9, 5), d.below(4)
		h.Clocks = append(h.Clocks, ticket.Range{Lo: lo, Hi: lo + more})
		off = append(off, d.from(lo, lo+more))
	}
	for range d.below(7) {
		h.Tickets = append(h.Tickets, ticket.Ticket{Tub: d.below(5)})
	}
	minute := d.from(20, 50)
	add := func(of int) {
		clock := d.below(len(h.Clocks))
		minute += d.below(5)
		h.Clips = append(h.Clips, clip(of, clock, minute+off[clock]))
	}
	leave := 1 + d.below(8) // so that in some houses most tubs are in use
	var open []int
	for of := range h.Tickets {
		if len(h.Clips)+len(open) > 8 || d.below(6) == 0 {
			continue
		}
		add(of)
		if open = append(open, of); d.below(leave) > 1 {
			n := d.below(len(open))
			add(open[n])
			open = slices.Delete(open, n, n+1)
		}
	}
	for _, of := range open {
		if d.below(leave) > 0 && len(h.Clips) < 10 {
			add(of)
		}
	}
	return h
}

// many returns floors: those of the examples, plain ones, some whose tubs are in use, and thrown ones.
func many(n int) []tub.Floor {
	out := []tub.Floor{
		example(), changed(3, 540), changed(1, 519), inUse(), plain(1, 100), plain(4, 100, 0, 0), plain(2, 125, 30, 20, 10, 20), plain(3, 130, 5, 5, 5, 5, 5), clipped(30, ranges(5, 5, 9, 9), 10, 20),
		clipped(30, ranges(5, 6, 5, 9, 5, 5), 0, -1, 7), plain(4, 120, 7, 0, 7, 3), plain(4, 109, 2, 3),
	}
	d := &dice{state: 7}
	for range n {
		out = append(out, d.thrown())
	}
	return out
}

// given returns those of many floors that give out a tub.
func given(n int) []tub.Floor {
	return slices.DeleteFunc(many(n), func(f tub.Floor) bool { return len(givenTubs(f)) == 0 })
}

func clipsOf(h ticket.House, of int) []ticket.Clip {
	return slices.DeleteFunc(slices.Clone(h.Clips), func(c ticket.Clip) bool { return c.Ticket != of })
}

// longer returns the lists with each number of the range behind each of them.
func longer(lists [][]int, lo, hi int) [][]int {
	var out [][]int
	for _, l := range lists {
		for n := lo; n <= hi; n++ {
			out = append(out, append(slices.Clone(l), n))
		}
	}
	return out
}

// clockTruths returns the errors of the clocks that are a truth of the House.
func clockTruths(h ticket.House) [][]int {
	all := lists(nil)
	for _, c := range h.Clocks {
		all = longer(all, c.Lo, c.Hi)
	}
	return slices.DeleteFunc(all, func(errors []int) bool {
		return !slices.IsSortedFunc(h.Clips, func(a, b ticket.Clip) int {
			return a.Minute - errors[a.Clock] - b.Minute + errors[b.Clock]
		})
	})
}

// givenTubs returns the tubs that are given out.
func givenTubs(f tub.Floor) []int {
	var out []int
	for n := range f.Tubs {
		used := false
		for of, x := range f.House.Tickets {
			used = used || x.Tub == n && len(clipsOf(f.House, of)) == 1
		}
		if !used {
			out = append(out, n)
		}
	}
	return out
}

// freeRanges returns the ranges of the tubs that are given out.
func freeRanges(f tub.Floor) []tub.Range {
	var out []tub.Range
	for _, n := range givenTubs(f) {
		var minutes []int
		for _, errors := range clockTruths(f.House) {
			minute := f.Open
			for of, x := range f.House.Tickets {
				if l := clipsOf(f.House, of); x.Tub == n && len(l) == 2 {
					minute = max(minute, l[1].Minute-errors[l[1].Clock])
				}
			}
			minutes = append(minutes, minute)
		}
		out = append(out, to(slices.Min(minutes), slices.Max(minutes)))
	}
	return out
}

// truthsOf returns all truths, if the tubs are free from these ranges on.
func truthsOf(from, queue []tub.Range) []tub.Truth {
	starts, minutes := lists(nil), lists(nil)
	for _, r := range from {
		starts = longer(starts, r.Lo, r.Hi)
	}
	for _, r := range queue {
		minutes = longer(minutes, r.Lo, r.Hi)
	}
	var out []tub.Truth
	for _, s := range starts {
		for _, m := range minutes {
			out = append(out, tub.Truth{From: s, Minutes: m})
		}
	}
	return out
}

// cornersOf returns the truths in which each number is an end of its range, for floors that have too many others.
func cornersOf(from, queue []tub.Range) []tub.Truth {
	var out []tub.Truth
	for _, t := range truthsOf(slices.Repeat(ranges(0, 1), len(from)), slices.Repeat(ranges(0, 1), len(queue))) {
		out = append(out, tub.Truth{From: ends(from, t.From), Minutes: ends(queue, t.Minutes)})
	}
	return out
}

// some returns all truths of a floor, or the corners alone if there are more than so many.
func some(f tub.Floor, many int) []tub.Truth {
	from, size := freeRanges(f), 1
	for _, r := range slices.Concat(from, f.Queue) {
		size *= r.Hi - r.Lo + 1
	}
	if size > many {
		return cornersOf(from, f.Queue)
	}
	return truthsOf(from, f.Queue)
}

// ends returns an end of each range: 0 is its Lo, 1 its Hi.
func ends(of []tub.Range, which []int) []int {
	var out []int
	for n, r := range of {
		out = append(out, list(r.Lo, r.Hi)[which[n]])
	}
	return out
}

// played returns the place of each woman's tub among those that are given out, and when she is done.
func played(t tub.Truth, order []int) (places, done []int) {
	free := slices.Clone(t.From)
	for _, woman := range order {
		place := 0
		for n, minute := range free {
			if minute < free[place] {
				place = n
			}
		}
		free[place] += t.Minutes[woman]
		places, done = append(places, place), append(done, free[place])
	}
	return places, done
}

// ending returns that of an order over all of the truths.
func ending(f tub.Floor, all []tub.Truth, order []int) int {
	out := f.Open
	for _, t := range all {
		_, done := played(t, order)
		out = max(out, slices.Max(append(done, f.Open)))
	}
	return out
}

// orders returns all orders of so many of the women, in lexicographic order.
func orders(f tub.Floor, many int) [][]int {
	out := lists(nil)
	for n := range many {
		out = slices.DeleteFunc(longer(out, 0, len(f.Queue)-1), func(l []int) bool { return slices.Contains(l[:n], l[n]) })
	}
	return out
}

// allOrders returns all orders, the shorter ones first.
func allOrders(f tub.Floor) [][]int {
	var out [][]int
	for many := range len(f.Queue) + 1 {
		out = append(out, orders(f, many)...)
	}
	return out
}

// best returns the best order with its ending, over all of the truths.
func best(f tub.Floor, all []tub.Truth) ([]int, int) {
	var order []int
	minute := -1
	for _, l := range orders(f, len(f.Queue)) {
		if n := ending(f, all, l); minute < 0 || n < minute {
			order, minute = l, n
		}
	}
	return order, minute
}

// most returns the most women.
func most(f tub.Floor, all []tub.Truth) []int {
	var out []int
	for _, l := range allOrders(f) {
		if len(l) > len(out) && ending(f, all, l) <= f.Closing {
			out = l
		}
	}
	return out
}

// queued returns the first so many women, as they wait.
func queued(many int) []int {
	var out []int
	for n := range many {
		out = append(out, n)
	}
	return out
}

// admitted returns how many women can be.
func admitted(f tub.Floor, all []tub.Truth) int {
	for n := len(f.Queue); n > 0; n-- {
		if ending(f, all, queued(n)) <= f.Closing {
			return n
		}
	}
	return 0
}
