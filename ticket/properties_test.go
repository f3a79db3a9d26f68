package ticket_test

import (
	"slices"
	"testing"

	"posser/api"
	"posser/ticket"
)

// within reports whether a range has no number that the other one has not.
func within(inner, outer ticket.Range) bool { return outer.Lo <= inner.Lo && inner.Hi <= outer.Hi }

// P1.7: what is bounded is within its bounds in each truth, and reaches both ends; what is so always, or never, is so in each truth.
func TestInEachTruth(t *testing.T) {
	for _, h := range truthful(200) {
		a := ask(t, h)
		lo, hi := map[[2]int]bool{}, map[[2]int]bool{}
		reach := func(kind, n, value int, r ticket.Range) {
			if value < r.Lo || value > r.Hi {
				t.Errorf("%v: %d of the kind %d is %d, outside %v", h, n, kind, value, r)
			}
			lo[[2]int{kind, n}] = lo[[2]int{kind, n}] || value == r.Lo
			hi[[2]int{kind, n}] = hi[[2]int{kind, n}] || value == r.Hi
		}
		for _, errors := range truths(h) {
			if !ticket.ProveTruth(h, errors) {
				t.Errorf("ProveTruth of %v, %v", h, errors)
			}
			for n, off := range errors {
				reach(0, n, off, a.clocks[n])
			}
			for n := range h.Tickets {
				reach(1, n, hours(h, errors, n), a.hours[n])
				if is := long(h, errors, n); a.long[n] == always && !is || a.long[n] == never && is {
					t.Errorf("Long of %v: %v, though not with %v", h, a.long, errors)
				}
			}
			for pair, v := range a.clash {
				if is := clash(h, errors, pair[0], pair[1]); v == always && !is || v == never && is {
					t.Errorf("Clash of %v, %v: %d, though not with %v", h, pair, v, errors)
				}
			}
		}
		if want := len(h.Clocks) + len(h.Tickets); len(lo) != want || len(hi) != want {
			t.Errorf("%v: %d things, not %d", h, len(lo), want)
		}
		for key := range lo {
			if !lo[key] || !hi[key] {
				t.Errorf("%v: an end of %v is not reached", h, key)
			}
		}
		if l := leave(t, h); len(l) > 0 {
			t.Errorf("Leave of %v: %v", h, l)
		}
	}
}

// P1.8: how Paid depends on Long and Clash.
func TestPaidOnce(t *testing.T) {
	seen := map[int]int{}
	for _, h := range truthful(400) {
		a := ask(t, h)
		allNever, someAlways := true, false
		for _, v := range a.long {
			allNever, someAlways = allNever && v == never, someAlways || v == always
		}
		for _, v := range a.clash {
			allNever, someAlways = allNever && v == never, someAlways || v == always
		}
		if (a.paid == always) != allNever || someAlways && a.paid != never {
			t.Errorf("Paid of %v: %d, with %v, %v", h, a.paid, a.long, a.clash)
		}
		seen[a.paid]++
	}
	if seen[always] < 10 || seen[never] < 10 || seen[perhaps] < 10 {
		t.Errorf("the houses do not try all verdicts: %v", seen)
	}
}

// sameAnswers reports whether all but the bounds of the clocks is the same.
func sameAnswers(a, b answers) bool {
	if len(a.clash) != len(b.clash) || len(a.free) != len(b.free) {
		return false
	}
	for key, v := range a.clash {
		if b.clash[key] != v {
			return false
		}
	}
	for key, r := range a.free {
		if b.free[key] != r {
			return false
		}
	}
	return slices.Equal(a.hours, b.hours) && slices.Equal(a.long, b.long) && a.paid == b.paid && a.clock == b.clock && a.left == b.left
}

// set is the house with a clock, and what it showed, greater by a number; ok is false if it is not valid then.
func set(h ticket.House, clock, by int) (out ticket.House, ok bool) {
	h = copied(h)
	h.Clocks[clock].Lo += by
	h.Clocks[clock].Hi += by
	for n := range h.Clips {
		if h.Clips[n].Clock == clock {
			h.Clips[n].Minute += by
		}
	}
	return h, ticket.CheckHouse(h) == api.OK
}

// P1.9: a clock that is set changes its own bounds alone.
func TestAClockThatIsSet(t *testing.T) {
	tried := 0
	for _, h := range many(120) {
		for clock := range h.Clocks {
			for _, by := range list(1, -1, 4, -7) {
				other, ok := set(h, clock, by)
				if !ok {
					continue
				}
				tried++
				first, e := ticket.First(h)
				n, f := ticket.First(other)
				if n != first || e != f || !slices.Equal(leave(t, h), leave(t, other)) {
					t.Errorf("First or Leave of %v and %v", h, other)
				}
				if len(truths(h)) == 0 {
					continue
				}
				a, b := ask(t, h), ask(t, other)
				b.clocks[clock] = to(b.clocks[clock].Lo-by, b.clocks[clock].Hi-by)
				if !sameAnswers(a, b) || !slices.Equal(a.clocks, b.clocks) {
					t.Errorf("%v and %v: %v and %v", h, other, a, b)
				}
			}
		}
	}
	if tried < 100 {
		t.Errorf("tried %d houses", tried)
	}
}

// P1.10: each house is compared with that without its last clip.
func TestOneMoreClip(t *testing.T) {
	for _, h := range many(250) {
		if len(h.Clips) == 0 {
			continue
		}
		less := h
		less.Clips = h.Clips[:len(h.Clips)-1]
		few, more := len(leave(t, less)), len(leave(t, h))
		if more < few || more > few+1 {
			t.Errorf("Leave of %v: %d; with a clip less %d", h, more, few)
		}
		if len(truths(h)) == 0 {
			continue
		}
		a, b := ask(t, less), ask(t, h)
		for n := range h.Clocks {
			if !within(b.clocks[n], a.clocks[n]) {
				t.Errorf("Clocks of %v: %v; with a clip less %v", h, b.clocks, a.clocks)
			}
		}
		if b.left > a.left {
			t.Errorf("Look of %v: %d; with a clip less %d", h, b.left, a.left)
		}
	}
}

// wider are the houses in which the range of a clock is wider by one.
func wider(h ticket.House) []ticket.House {
	var out []ticket.House
	for clock := range h.Clocks {
		for _, by := range ranges(-1, 0, 0, 1) {
			w := copied(h)
			w.Clocks[clock] = to(w.Clocks[clock].Lo+by.Lo, w.Clocks[clock].Hi+by.Hi)
			if ticket.CheckHouse(w) == api.OK {
				out = append(out, w)
			}
		}
	}
	return out
}

// P1.11: with a wider range nothing is surer.
func TestAWiderRange(t *testing.T) {
	surer := func(before, after int) bool { return after != perhaps && after != before }
	for _, h := range many(100) {
		for _, w := range wider(h) {
			if len(leave(t, w)) > len(leave(t, h)) {
				t.Errorf("Leave of %v: more than of %v", w, h)
			}
			if len(truths(h)) == 0 {
				continue
			}
			a, b := ask(t, h), ask(t, w)
			for n := range a.clocks {
				if !within(a.clocks[n], b.clocks[n]) {
					t.Errorf("Clocks of %v: %v; of %v: %v", h, a.clocks, w, b.clocks)
				}
			}
			for n := range a.hours {
				if !within(a.hours[n], b.hours[n]) || surer(a.long[n], b.long[n]) {
					t.Errorf("Hours, Long of %v: %v, %v; of %v: %v, %v", h, a.hours, a.long, w, b.hours, b.long)
				}
			}
			for pair, v := range a.clash {
				if surer(v, b.clash[pair]) {
					t.Errorf("Clash of %v: %v; of %v: %v", h, a.clash, w, b.clash)
				}
			}
			for tub, r := range a.free {
				if !within(r, b.free[tub]) {
					t.Errorf("Free of %v: %v; of %v: %v", h, a.free, w, b.free)
				}
			}
			if surer(a.paid, b.paid) {
				t.Errorf("Paid of %v: %d; of %v: %d", h, a.paid, w, b.paid)
			}
		}
	}
}

// in returns the house with the errors of its clocks known: it has this truth alone.
func in(h ticket.House, errors []int) ticket.House {
	for clock, off := range errors {
		h = known(h, clock, off)
	}
	return h
}

// P1.12: nobody stays too long who did not, if more was paid or the Grace or the Hour is greater.
func TestMoreHours(t *testing.T) {
	d := &dice{state: 5}
	for _, h := range truthful(150) {
		all := truths(h)
		one := in(h, all[d.below(len(all))])
		for _, of := range []ticket.House{h, one} {
			a := ask(t, of)
			paid, grace, hour := copied(of), copied(of), copied(of)
			for n := range paid.Tickets {
				paid.Tickets[n].Hours = min(paid.Tickets[n].Hours+1, 9)
			}
			grace.Grace = min(grace.Grace+d.from(1, 3), 60)
			hour.Hour = min(hour.Hour+d.from(1, 3), 120)
			for i, more := range []ticket.House{paid, grace, hour} {
				b := ask(t, more)
				for n := range of.Tickets {
					if b.long[n] != never && a.long[n] == never || b.long[n] == always && a.long[n] != always {
						t.Errorf("Long of %v: %v; of %v: %v", of, a.long, more, b.long)
					}
					if b.hours[n].Lo > a.hours[n].Lo || b.hours[n].Hi > a.hours[n].Hi || i == 0 && b.hours[n] != a.hours[n] {
						t.Errorf("Hours of %v: %v; of %v: %v", of, a.hours, more, b.hours)
					}
				}
			}
		}
	}
}

// P1.13: what is left if the error of the clock is known, and that no other clock leaves fewer.
func TestCompared(t *testing.T) {
	for _, h := range truthful(100) {
		if len(h.Clocks) == 0 {
			continue
		}
		a := ask(t, h)
		for clock, c := range h.Clocks {
			most := 0
			for off := c.Lo; off <= c.Hi; off++ {
				n := 0
				for _, errors := range allErrors(known(h, clock, off).Clocks) {
					if ticket.ProveTruth(h, errors) {
						n++
					}
				}
				most = max(most, n)
			}
			if most < a.left || clock == a.clock && most != a.left || clock < a.clock && most == a.left {
				t.Errorf("Look of %v: %d, %d; %d leaves %d", h, a.clock, a.left, clock, most)
			}
		}
	}
}

// P1.14: tickets of different tubs, and the same two the other way round; a tub is free after all second clips.
func TestOneTub(t *testing.T) {
	for _, h := range truthful(300) {
		a := ask(t, h)
		for pair, v := range a.clash {
			if h.Tickets[pair[0]].Tub != h.Tickets[pair[1]].Tub && v != never || v != a.clash[[2]int{pair[1], pair[0]}] {
				t.Errorf("Clash of %v: %v", h, a.clash)
			}
		}
		all := truths(h)
		for _, errors := range all[:min(len(all), 20)] {
			b := ask(t, in(h, errors))
			for n, x := range h.Tickets {
				s := stays(h, errors, n)
				if r, ok := b.free[x.Tub]; ok && len(s) == 2 && (r.Lo != r.Hi || r.Lo < s[1] || !within(r, a.free[x.Tub])) {
					t.Errorf("Free of %v with %v: %v, of all truths %v", h, errors, b.free, a.free)
				}
			}
		}
	}
}

// hasTruth asks a call that needs one.
func hasTruth(t *testing.T, h ticket.House) bool {
	t.Helper()
	_, e := ticket.Clocks(h)
	if e != api.OK && e != api.ErrFalse {
		t.Fatalf("Clocks of %v: %v", h, e)
	}
	return e == api.OK
}

// P1.15: there is a truth before the first wrong clip, and none with it.
func TestFirstIsTheFirst(t *testing.T) {
	wrong := 0
	for _, h := range many(300) {
		n, e := ticket.First(h)
		if e == api.ErrNone {
			if !hasTruth(t, h) {
				t.Errorf("First of %v: none", h)
			}
			continue
		}
		wrong++
		before, with := h, h
		before.Clips, with.Clips = h.Clips[:n], h.Clips[:n+1]
		if !hasTruth(t, before) || hasTruth(t, with) || hasTruth(t, h) {
			t.Errorf("First of %v: %d", h, n)
		}
	}
	if wrong < 20 {
		t.Errorf("%d houses have a wrong clip", wrong)
	}
}

// P1.16: without the smallest set there is a truth; without any list before it there is none.
func TestLeftOut(t *testing.T) {
	lengths := map[int]int{}
	for _, h := range many(150) {
		l := leave(t, h)
		lengths[len(l)]++
		if !hasTruth(t, without(h, l)) {
			t.Errorf("Leave of %v: %v", h, l)
		}
		for _, s := range sets(h) {
			if slices.Equal(s, l) {
				break
			}
			if hasTruth(t, without(h, s)) {
				t.Errorf("Leave of %v: %v, not %v", h, l, s)
			}
		}
	}
	if lengths[1] < 5 || lengths[2] < 5 {
		t.Errorf("the houses do not try enough sets: %v", lengths)
	}
}
