package tub_test

import (
	"slices"
	"testing"

	"posser/api"
	"posser/ticket"
	"posser/tub"
)

// few are some of the orders of a floor, other ones with another number.
func few(f tub.Floor, number int) [][]int {
	all := allOrders(f)
	out := lists(queued(len(f.Queue)))
	for n := number % 7; n < len(all); n += 7 {
		out = append(out, all[n])
	}
	return out
}

// notLater reports whether nobody is done later than in the other list.
func notLater(done, other []int) bool {
	for n, minute := range done {
		if minute > other[n] {
			return false
		}
	}
	return len(done) == len(other)
}

func los(l []tub.Range) []int {
	var out []int
	for _, r := range l {
		out = append(out, r.Lo)
	}
	return out
}

func his(l []tub.Range) []int {
	var out []int
	for _, r := range l {
		out = append(out, r.Hi)
	}
	return out
}

// P7.7: in each truth each woman is done within her bounds, of which both ends are reached.
func TestInEachTruth(t *testing.T) {
	wide := 0
	for i, f := range given(200) {
		all := some(f, 60)
		for _, order := range few(f, i) {
			l := bounds(t, f, order)
			reached := map[[2]int]bool{}
			for _, x := range all {
				_, done := play(t, f, x, order)
				for n, minute := range done {
					if minute < l[n].Lo || minute > l[n].Hi {
						t.Errorf("Ends of %v, %v: %v, though there is %v", f, order, l, x)
					}
					reached[[2]int{n, minute}] = true
				}
			}
			for n, r := range l {
				if !reached[[2]int{n, r.Lo}] || !reached[[2]int{n, r.Hi}] {
					t.Errorf("Ends of %v, %v: %v, of which an end is not reached", f, order, l)
				}
				if r.Lo < r.Hi {
					wide++
				}
			}
		}
	}
	if wide < 500 {
		t.Errorf("the floors do not try enough: %d", wide)
	}
}

// P7.7: no two women are at one tub at the same time, and no woman waits while another tub is free.
func TestNobodyWaitsForNothing(t *testing.T) {
	waits := 0
	for i, f := range given(200) {
		all, places := some(f, 60), givenTubs(f)
		for _, order := range few(f, i) {
			for _, x := range all {
				tubs, done := play(t, f, x, order)
				free := map[int]int{}
				for n, place := range places {
					free[place] = x.From[n]
				}
				for n, woman := range order {
					begins, here := done[n]-x.Minutes[woman], tubs[n]
					if begins < free[here] {
						t.Errorf("Play of %v, %v, %v: %v, %v; two at the tub %d", f, x, order, tubs, done, here)
					}
					for _, place := range places {
						if begins > free[place] || begins == free[place] && place < here {
							t.Errorf("Play of %v, %v, %v: %v, %v; the tub %d is free", f, x, order, tubs, done, place)
						}
					}
					if begins > slices.Min(x.From) {
						waits++
					}
					free[here] = done[n]
				}
			}
		}
	}
	if waits < 1000 {
		t.Errorf("the floors do not try enough: %d", waits)
	}
}

// P7.8: with numbers of which none is greater, in a truth, nobody is done later.
func TestEarlier(t *testing.T) {
	pairs, elsewhere := 0, 0
	for i, f := range given(150) {
		all := some(f, 60)
		for _, order := range few(f, i) {
			for n, x := range all {
				y := all[(n*7+i)%len(all)]
				if !notLater(x.From, y.From) || !notLater(x.Minutes, y.Minutes) {
					continue
				}
				tubs, done := play(t, f, x, order)
				others, later := play(t, f, y, order)
				if !notLater(done, later) {
					t.Errorf("Play of %v, %v, %v: %v; of %v: %v", f, x, order, done, y, later)
				}
				if !slices.Equal(done, later) {
					pairs++
				}
				if !slices.Equal(tubs, others) {
					elsewhere++
				}
			}
		}
	}
	if pairs < 1000 || elsewhere < 300 {
		t.Errorf("the floors do not try enough: %d, %d", pairs, elsewhere)
	}
}

// P7.9: without one of the women nobody who stays is done later, and a sure order stays sure.
func TestWithoutOne(t *testing.T) {
	earlier, sure := 0, 0
	for i, f := range append(given(300), full()) {
		for _, order := range few(f, i) {
			l := bounds(t, f, order)
			for n := range order {
				fewer := slices.Delete(slices.Clone(order), n, n+1)
				staying := slices.Delete(slices.Clone(l), n, n+1)
				m := bounds(t, f, fewer)
				if !notLater(los(m), los(staying)) || !notLater(his(m), his(staying)) {
					t.Errorf("Ends of %v, %v: %v; of %v: %v", f, order, l, fewer, m)
				}
				if !slices.Equal(m, staying) {
					earlier++
				}
				if late(t, f, order) < 0 {
					sure++
					if late(t, f, fewer) >= 0 {
						t.Errorf("Late of %v, %v: none; of %v: %d", f, order, fewer, late(t, f, fewer))
					}
				}
			}
		}
	}
	if earlier < 500 || sure < 500 {
		t.Errorf("the floors do not try enough: %d, %d", earlier, sure)
	}
}

// P7.9: in each truth, too.
func TestWithoutOneInEachTruth(t *testing.T) {
	for i, f := range given(100) {
		for _, order := range few(f, i) {
			for _, x := range some(f, 30) {
				_, done := play(t, f, x, order)
				for n := range order {
					fewer := slices.Delete(slices.Clone(order), n, n+1)
					if _, l := play(t, f, x, fewer); !notLater(l, slices.Delete(slices.Clone(done), n, n+1)) {
						t.Errorf("Play of %v, %v, %v: %v; of %v: %v", f, x, order, done, fewer, l)
					}
				}
			}
		}
	}
}

// P7.10: no order of all women is better than the best one, and no sure order is before the most women.
func TestNoBetter(t *testing.T) {
	before, as, more := 0, 0, 0
	for _, f := range append(given(900), full()) {
		a := ask(t, f)
		if !tub.ProveOrder(f, a.best, a.ending) || late(t, f, a.most) >= 0 {
			t.Errorf("ProveOrder, Late of %v, %v", f, a)
		}
		for _, l := range orders(f, len(f.Queue)) {
			n := slices.Max(append(his(bounds(t, f, l)), f.Open))
			if n < a.ending || n == a.ending && slices.Compare(l, a.best) < 0 || tub.ProveOrder(f, l, a.ending-1) {
				t.Errorf("Best of %v: %v, %d; not %v, %d", f, a.best, a.ending, l, n)
			}
			if slices.Compare(l, a.best) < 0 {
				before++
			} else if n == a.ending {
				as++
			}
		}
		for _, l := range allOrders(f) {
			if late(t, f, l) < 0 && (len(l) > len(a.most) || len(l) == len(a.most) && slices.Compare(l, a.most) < 0) {
				t.Errorf("Most of %v: %v, not %v", f, a.most, l)
			}
			if len(l) > len(a.most) {
				more++
			}
		}
	}
	if before < 300 || as < 500 || more < 500 {
		t.Errorf("the floors do not try enough: %d, %d, %d", before, as, more)
	}
}

// P7.11: the most women, those who can be admitted, and the best order tell the same.
func TestAdmitted(t *testing.T) {
	more, all, best := 0, 0, 0
	for _, f := range append(given(2000), full()) {
		a, women := ask(t, f), len(f.Queue)
		if len(a.most) < a.admit {
			t.Errorf("Most, Admit of %v: %v", f, a)
		}
		isSure := late(t, f, a.best) < 0
		if (a.admit == women) != (late(t, f, queued(women)) < 0) || a.admit == women && !isSure {
			t.Errorf("Admit, Late of %v: %v", f, a)
		}
		if (len(a.most) == women) != isSure || isSure != (a.ending <= f.Closing) {
			t.Errorf("Most, Best, Late of %v: %v", f, a)
		}
		switch {
		case len(a.most) > a.admit && isSure:
			best++
		case len(a.most) > a.admit:
			more++
		case isSure:
			all++
		}
	}
	if more < 50 || all < 50 || best < 10 {
		t.Errorf("the floors do not try enough: %d, %d, %d", more, all, best)
	}
}

// P7.12: at one tub each woman begins when the one before her is done.
func TestOneTub(t *testing.T) {
	several := 0
	for i, f := range given(600) {
		if len(givenTubs(f)) > 1 {
			continue
		}
		ends := map[int]int{} // of each set of women, as bits
		for _, order := range allOrders(f) {
			women := 0
			for _, woman := range order {
				women |= 1 << woman
			}
			end := slices.Max(append(his(bounds(t, f, order)), f.Open))
			if before, is := ends[women]; is && before != end {
				t.Errorf("Ends of %v: %d and %d, in the order %v", f, before, end, order)
			}
			ends[women] = end
			if len(order) > 1 {
				several++
			}
		}
		for _, order := range few(f, i) {
			for _, x := range some(f, 30) {
				tubs, done := play(t, f, x, order)
				begins := x.From[0]
				for n, woman := range order {
					if tubs[n] != givenTubs(f)[0] || done[n] != begins+x.Minutes[woman] {
						t.Errorf("Play of %v, %v, %v: %v, %v", f, x, order, tubs, done)
					}
					begins = done[n]
				}
			}
		}
	}
	if several < 500 {
		t.Errorf("the floors do not try enough: %d", several)
	}
}

// P7.13: one more tub is worth at least 0 minutes, and as many as if it were there; nothing if there is one for each woman.
func TestOneMoreTub(t *testing.T) {
	worth, enough := 0, 0
	for _, f := range append(given(600), full()) {
		a := ask(t, f)
		if a.more < 0 {
			t.Errorf("More of %v: %d", f, a.more)
		}
		worth += a.more
		g := f
		g.Tubs++
		if l := givenTubs(g); g.Tubs <= 4 && len(l) > len(a.tubs) && freeRanges(g)[len(a.tubs)] == to(f.Open, f.Open) {
			if b := ask(t, g); b.ending != a.ending-a.more {
				t.Errorf("Best, More of %v: %d, %d; with one more tub %d", f, a.ending, a.more, b.ending)
			}
		}
		if len(a.tubs) >= len(f.Queue) && slices.Max(his(a.from)) == f.Open {
			enough++
			if a.more != 0 {
				t.Errorf("More of %v: %d", f, a.more)
			}
		}
	}
	if worth < 500 || enough < 20 {
		t.Errorf("the floors do not try enough: %d, %d", worth, enough)
	}
}

// P7.14: with a greater Closing not fewer are done, and with a greater Open nobody is done earlier.
func TestLaterClosing(t *testing.T) {
	d := &dice{state: 13}
	most, admit, later := 0, 0, 0
	for i, f := range append(given(300), full()) {
		a, g := ask(t, f), f
		g.Closing = min(f.Closing+d.from(1, 9), 1439)
		b := ask(t, g)
		if len(b.most) < len(a.most) || b.admit < a.admit {
			t.Errorf("Most, Admit of %v: %v; with Closing %d: %v", f, a, g.Closing, b)
		}
		most += len(b.most) - len(a.most)
		admit += b.admit - a.admit
		if f.Open == f.Closing {
			continue
		}
		g = f
		g.Open = d.from(f.Open+1, f.Closing)
		for _, order := range few(f, i) {
			l, m := bounds(t, f, order), bounds(t, g, order)
			if !notLater(los(l), los(m)) || !notLater(his(l), his(m)) {
				t.Errorf("Ends of %v, %v: %v; with Open %d: %v", f, order, l, g.Open, m)
			}
			if !slices.Equal(l, m) {
				later++
			}
		}
	}
	if most < 50 || admit < 50 || later < 200 {
		t.Errorf("the floors do not try enough: %d, %d, %d", most, admit, later)
	}
}

// clippedOnce returns the floors with one more clip of a ticket, after all others, by each clock.
func clippedOnce(f tub.Floor, of int) []tub.Floor {
	last := f.House.Clips[len(f.House.Clips)-1].Minute
	var out []tub.Floor
	for clock := range f.House.Clocks {
		for n := last - 12; n < last+12; n++ {
			g := copied(f)
			g.House.Clips = append(g.House.Clips, clip(of, clock, n))
			if tub.CheckFloor(g) == api.OK {
				out = append(out, g)
			}
		}
	}
	return out
}

// P7.15: with one more clip each other tub that was given out still is, and its range is not wider.
func TestKnownBetter(t *testing.T) {
	narrower, same := 0, 0
	for i, f := range given(2000) {
		if len(f.House.Clips) == 0 {
			continue
		}
		of := i % len(f.House.Tickets)
		tubs, from, e := tub.Given(f)
		for _, g := range clippedOnce(f, of) {
			others, after, h := tub.Given(g)
			if e != api.OK || h != api.OK && h != api.ErrState {
				t.Fatalf("Given of %v, %v: %v, %v", f, g, e, h)
			}
			for n, place := range tubs {
				if place == g.House.Tickets[of].Tub {
					continue
				}
				m := slices.Index(others, place)
				switch {
				case m < 0 || after[m].Lo < from[n].Lo || after[m].Hi > from[n].Hi:
					t.Errorf("Given of %v: %v, %v; of %v: %v, %v", f, tubs, from, g, others, after)
				case after[m] != from[n]:
					narrower++
				case from[n].Lo < from[n].Hi:
					same++
				}
			}
		}
	}
	if narrower < 50 || same < 50 {
		t.Errorf("the floors do not try enough: %d, %d", narrower, same)
	}
}

// P7.1: the ranges of Given are those of ticket.Free, but for Open.
func TestGivenByTickets(t *testing.T) {
	for _, f := range append(many(300), full()) {
		tubs, from, _ := tub.Given(f)
		for place := range f.Tubs {
			r, e := ticket.Free(f.House, place)
			n := slices.Index(tubs, place)
			if (e == api.OK) != (n >= 0) || n >= 0 && from[n] != to(max(r.Lo, f.Open), max(r.Hi, f.Open)) {
				t.Errorf("Given of %v: %v, %v; Free of %d: %v, %v", f, tubs, from, place, r, e)
			}
		}
	}
}
