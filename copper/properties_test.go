package copper_test

import (
	"slices"
	"testing"

	"posser/api"
	"posser/copper"
)

// within reports whether a range has no number that the other one has not.
func within(inner, outer copper.Range) bool { return outer.Lo <= inner.Lo && inner.Hi <= outer.Hi }

// allWithin reports whether each range is within that of the same number.
func allWithin(inner, outer []copper.Range) bool {
	for n, r := range inner {
		if !within(r, outer[n]) {
			return false
		}
	}
	return len(inner) == len(outer)
}

// P2.7: what is hot, and left, is within its bounds in each truth, and both ends are reached; what is kept always, or never, is so in each truth.
func TestInEachTruth(t *testing.T) {
	for _, c := range append(truthful(300), full()) {
		a := ask(t, c)
		reached := map[[3]int]bool{}
		reach := func(kind, hour, value int, r copper.Range) {
			if value < r.Lo || value > r.Hi {
				t.Errorf("%v: %d of the kind %d in the hour %d, outside %v", c, value, kind, hour, r)
			}
			reached[[3]int{kind, hour, 0}] = reached[[3]int{kind, hour, 0}] || value == r.Lo
			reached[[3]int{kind, hour, 1}] = reached[[3]int{kind, hour, 1}] || value == r.Hi
		}
		for _, one := range truths(c) {
			if !copper.ProveTruth(c, one) {
				t.Errorf("ProveTruth of %v, %v", c, one)
			}
			p := day(c, c.Coal, c.Want, one)
			for hour := range c.Last + 1 {
				reach(0, hour, p.hot[hour], a.hot[hour])
				reach(1, hour, p.left[hour], a.left[hour])
				if a.keeps[hour] == always && !p.kept[hour] || a.keeps[hour] == never && p.kept[hour] {
					t.Errorf("Keeps of %v: %v, though not in %v", c, a.keeps, one)
				}
			}
		}
		if len(reached) != 4*(c.Last+1) {
			t.Errorf("%v: %d ends, not %d", c, len(reached), 4*(c.Last+1))
		}
		for end, is := range reached {
			if !is {
				t.Errorf("%v: the end %v is not reached", c, end)
			}
		}
		if l := leave(t, c); len(l) > 0 {
			t.Errorf("Leave of %v: %v", c, l)
		}
	}
}

// P2.7: readings that are right in some truth need not be left out, whichever others there are.
func TestReadingsThatAreRight(t *testing.T) {
	for _, c := range many(150) {
		for _, set := range sets(c) {
			if canLeave(c, set) {
				if l := leave(t, without(c, set)); len(l) > 0 {
					t.Errorf("Leave of %v without %v: %v", c, set, l)
				}
			}
		}
	}
}

// play is what Play returns.
func play(t *testing.T, c copper.Copper, of copper.Truth) (hot, left []int) {
	t.Helper()
	hot, left, e := copper.Play(c, of)
	if e != api.OK {
		t.Fatalf("Play of %v, %v: %v", c, of, e)
	}
	return hot, left
}

// in is the coppers with this truth alone, and no readings.
func in(c copper.Copper, of copper.Truth) copper.Copper {
	c = copied(c)
	c.Heat, c.Readings = to(of.Heat, of.Heat), nil
	for hour, n := range of.Loss {
		c.Loss[hour] = to(n, n)
	}
	return c
}

// warmer are the truths, and the coal, that are warmer by one than these in one thing.
func warmer(c copper.Copper, of copper.Truth) []copper.Copper {
	hotter := of
	hotter.Heat++
	out := []copper.Copper{in(c, hotter)}
	for hour := range of.Loss {
		less := truth(of.Heat, slices.Clone(of.Loss)...)
		less.Loss[hour]--
		more := in(c, of)
		more.Coal[hour]++
		out = append(out, in(c, less), more)
	}
	return slices.DeleteFunc(out, func(c copper.Copper) bool { return copper.CheckCopper(c) != api.OK })
}

// P2.8: if it is warmer in something no hour has fewer hot buckets, nor less heat left.
func TestWarmer(t *testing.T) {
	tried := 0
	for _, c := range append(many(150), full()) {
		all := allTruths(c)
		for n := 0; n < len(all); n += 7 {
			hot, left := play(t, c, all[n])
			for _, w := range warmer(c, all[n]) {
				tried++
				of := allTruths(w)[0]
				h, l := play(t, w, of)
				for hour := range hot {
					if h[hour] < hot[hour] || l[hour] < left[hour] {
						t.Errorf("Play of %v, %v: %v, %v; of %v, %v: %v, %v", c, all[n], hot, left, w, of, h, l)
					}
				}
			}
		}
	}
	if tried < 1000 {
		t.Errorf("tried %d", tried)
	}
}

// P2.9: with more promised the promises are kept always only if they were with less; more than the spare ones are not.
func TestWhatIsPromised(t *testing.T) {
	d := &dice{state: 13}
	kept := 0
	for _, c := range truthful(300) {
		a := ask(t, c)
		if (a.kept == always) != (a.lacks < 0) {
			t.Errorf("More, Lacks of %v: %d, %d", c, a.kept, a.lacks)
		}
		for range 8 {
			less, some := make([]int, c.Last+1), make([]int, c.Last+1)
			for hour := range less {
				less[hour] = d.below(3) / 2
				some[hour] = less[hour] + d.below(3)/2
			}
			v, w := more(t, c, less...), more(t, c, some...)
			if w == always && v != always || v == never && w != never {
				t.Errorf("More of %v, %v: %d; of %v: %d", c, less, v, some, w)
			}
			if w == always && sum(some) > 0 {
				kept++
			}
		}
		for hour, n := range a.spare {
			for by := range 21 {
				if (more(t, c, only(c, hour, by)...) == always) != (by <= n) {
					t.Errorf("More of %v, %d in the hour %d: not as Spare, %d", c, by, hour, n)
				}
			}
		}
	}
	if kept < 50 {
		t.Errorf("the coppers keep too little: %d", kept)
	}
}

// P2.10: no sure coal is less than the least one.
func TestNoLessCoal(t *testing.T) {
	for _, c := range truthful(150) {
		a := ask(t, c)
		if copper.ProveCoal(c, c.Coal, 15) != (a.lacks < 0) {
			t.Errorf("ProveCoal of the Coal of %v, Lacks: %d", c, a.lacks)
		}
		all := make([]int, c.Last+1)
		for hour := range all {
			all[hour] = c.Shovels
		}
		if copper.ProveCoal(c, all, 15) == a.isShort {
			t.Errorf("ProveCoal of all Shovels of %v, though Least is %v", c, a.least)
		}
		if !a.isShort && !copper.ProveCoal(c, a.least, sum(a.least)) {
			t.Errorf("ProveCoal of %v, %v", c, a.least)
		}
		for _, coal := range allCoal(c) {
			if slices.Equal(coal, a.least) {
				break
			}
			if copper.ProveCoal(c, coal, 15) {
				t.Errorf("Least of %v: %v, though %v is sure", c, a.least, coal)
			}
		}
	}
}

// P2.11: what is hot in an hour does not depend on the Coal and the Want of later hours, nor on its own Want.
func TestTheHoursBefore(t *testing.T) {
	d := &dice{state: 17}
	for _, c := range many(150) {
		all := allTruths(c)
		for hour := range c.Last + 1 {
			other := copied(c)
			for later := hour; later <= c.Last; later++ {
				other.Want[later] = d.below(21)
				if later > hour {
					other.Coal[later] = d.below(c.Shovels + 1)
				}
			}
			for n := 0; n < len(all); n += 5 {
				a, _ := play(t, c, all[n])
				b, _ := play(t, other, all[n])
				if !slices.Equal(a[:hour+1], b[:hour+1]) {
					t.Errorf("Play of %v, %v: %v; of %v: %v", c, all[n], a, other, b)
				}
			}
			without, otherWithout := c, other
			without.Readings, otherWithout.Readings = nil, nil
			if a, b := ask(t, without), ask(t, otherWithout); !slices.Equal(a.hot[:hour+1], b.hot[:hour+1]) {
				t.Errorf("Bounds of %v: %v; of %v: %v", without, a.hot, otherWithout, b.hot)
			}
		}
	}
}

// P2.12: each of the coppers are compared with those without their last reading.
func TestOneMoreReading(t *testing.T) {
	stays := func(before, after int) bool { return before == perhaps || after == before }
	tried := 0
	for _, c := range append(many(300), full()) {
		if len(c.Readings) == 0 {
			continue
		}
		less := c
		less.Readings = c.Readings[:len(c.Readings)-1]
		few, many := len(leave(t, less)), len(leave(t, c))
		if many < few || many > few+1 {
			t.Errorf("Leave of %v: %d; with a reading less %d", c, many, few)
		}
		if len(truths(c)) == 0 {
			continue
		}
		tried++
		a, b := ask(t, less), ask(t, c)
		if !allWithin(b.hot, a.hot) || !allWithin(b.left, a.left) {
			t.Errorf("Bounds of %v: %v, %v; with a reading less %v, %v", c, b.hot, b.left, a.hot, a.left)
		}
		for hour := range c.Last + 1 {
			if !stays(a.keeps[hour], b.keeps[hour]) || !stays(a.kept, b.kept) {
				t.Errorf("Keeps, More of %v: %v, %d; with a reading less %v, %d", c, b.keeps, b.kept, a.keeps, a.kept)
			}
		}
		for hour, n := range a.spare {
			if b.spare[hour] < n {
				t.Errorf("Spare of %v: %v; with a reading less %v", c, b.spare, a.spare)
			}
		}
		for _, coal := range allCoal(c)[:1+c.Shovels*(c.Last+1)] {
			if copper.ProveCoal(less, coal, 15) && !copper.ProveCoal(c, coal, 15) {
				t.Errorf("ProveCoal of %v, %v: not sure with one more reading", c, coal)
			}
		}
		if !a.isShort && (b.isShort || sum(b.least) > sum(a.least) || !copper.ProveCoal(c, a.least, 15)) {
			t.Errorf("Least of %v: %v; with a reading less %v", c, b.least, a.least)
		}
	}
	if tried < 100 {
		t.Errorf("tried %d", tried)
	}
}

// wider are the coppers in which one range is wider by one.
func wider(c copper.Copper) []copper.Copper {
	var out []copper.Copper
	for _, by := range ranges(-1, 0, 0, 1) {
		widen := func(r *copper.Range) { r.Lo, r.Hi = r.Lo+by.Lo, r.Hi+by.Hi }
		w := copied(c)
		widen(&w.Heat)
		out = append(out, w)
		for hour := range c.Loss {
			w := copied(c)
			widen(&w.Loss[hour])
			out = append(out, w)
		}
		for n := range c.Readings {
			w := copied(c)
			widen(&w.Readings[n].Buckets)
			out = append(out, w)
		}
	}
	return slices.DeleteFunc(out, func(c copper.Copper) bool { return copper.CheckCopper(c) != api.OK })
}

// P2.13: with a wider range nothing is surer.
func TestAWiderRange(t *testing.T) {
	surer := func(before, after int) bool { return after != perhaps && after != before }
	for _, c := range many(120) {
		for _, w := range wider(c) {
			if len(leave(t, w)) > len(leave(t, c)) {
				t.Errorf("Leave of %v: more than of %v", w, c)
			}
			if len(truths(c)) == 0 {
				continue
			}
			a, b := ask(t, c), ask(t, w)
			if !allWithin(a.hot, b.hot) || !allWithin(a.left, b.left) {
				t.Errorf("Bounds of %v: %v, %v; of %v: %v, %v", c, a.hot, a.left, w, b.hot, b.left)
			}
			for hour := range c.Last + 1 {
				if surer(a.keeps[hour], b.keeps[hour]) || surer(a.kept, b.kept) {
					t.Errorf("Keeps, More of %v: %v, %d; of %v: %v, %d", c, a.keeps, a.kept, w, b.keeps, b.kept)
				}
			}
			if !b.isShort && (a.isShort || sum(a.least) > sum(b.least) || !copper.ProveCoal(c, b.least, 15)) {
				t.Errorf("Least of %v: %v; of %v: %v", c, a.least, w, b.least)
			}
			for _, coal := range allCoal(c)[:c.Last+1] {
				if copper.ProveCoal(w, coal, 15) && !copper.ProveCoal(c, coal, 15) {
					t.Errorf("ProveCoal of %v, %v: sure, though not of %v", w, coal, c)
				}
			}
		}
	}
}

// hasTruth asks a call that needs one.
func hasTruth(t *testing.T, c copper.Copper) bool {
	t.Helper()
	_, e := copper.Keeps(c)
	if e != api.OK && e != api.ErrFalse {
		t.Fatalf("Keeps of %v: %v", c, e)
	}
	return e == api.OK
}

// P2.14: there is a truth before the first wrong reading, and none with it.
func TestFirstIsTheFirst(t *testing.T) {
	wrong := 0
	for _, c := range append(many(400), full()) {
		n, e := copper.First(c)
		if e == api.ErrNone {
			if !hasTruth(t, c) {
				t.Errorf("First of %v: none", c)
			}
			continue
		}
		wrong++
		before, with := c, c
		before.Readings, with.Readings = c.Readings[:n], c.Readings[:n+1]
		if !hasTruth(t, before) || hasTruth(t, with) || hasTruth(t, c) {
			t.Errorf("First of %v: %d", c, n)
		}
	}
	if wrong < 50 {
		t.Errorf("%d coppers have a wrong reading", wrong)
	}
}

// P2.15: without the smallest set there is a truth; without any list before it there is none.
func TestLeftOut(t *testing.T) {
	lengths := map[int]int{}
	for _, c := range append(many(400), full()) {
		l := leave(t, c)
		lengths[len(l)]++
		if !hasTruth(t, without(c, l)) {
			t.Errorf("Leave of %v: %v", c, l)
		}
		for _, s := range sets(c) {
			if slices.Equal(s, l) {
				break
			}
			if hasTruth(t, without(c, s)) {
				t.Errorf("Leave of %v: %v, not %v", c, l, s)
			}
		}
	}
	if lengths[1] < 20 || lengths[2] < 10 {
		t.Errorf("the coppers do not try enough sets: %v", lengths)
	}
}
