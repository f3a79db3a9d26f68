package closet_test

import (
	"slices"
	"testing"

	"posser/api"
	"posser/closet"
)

// hasTruth asks a call that needs one.
func hasTruth(t *testing.T, c closet.Closet) bool {
	t.Helper()
	_, e := closet.Bounds(c, c.Hung)
	if e != api.OK && e != api.ErrFalse {
		t.Fatalf("Bounds of %v: %v", c, e)
	}
	return e == api.OK
}

// within reports whether a range has no number that the other one has not.
func within(inner, outer closet.Range) bool {
	return inner.Lo > inner.Hi || outer.Lo <= inner.Lo && inner.Hi <= outer.Hi
}

// allWithin reports whether each range is within that of the same number.
func allWithin(inner, outer []closet.Range) bool {
	for n, r := range inner {
		if !within(r, outer[n]) {
			return false
		}
	}
	return len(inner) == len(outer)
}

// notLater reports whether one is done in the minute of the other or before, or the other one is never done (-1).
func notLater(one, other int) bool { return other < 0 || one >= 0 && one <= other }

// valid returns the closets that are, of some.
func valid(some []closet.Closet) []closet.Closet {
	return slices.DeleteFunc(some, func(c closet.Closet) bool { return closet.CheckCloset(c) != api.OK })
}

// some are a few of the placements.
func some(c closet.Closet) [][]int {
	all := placements(c)
	return [][]int{c.Hung, all[0], all[len(all)/2]}
}

// P4.7: in each truth the dry minutes are within their bounds, of which both ends are reached, and what is good, or right always or never, is so.
func TestInEachTruth(t *testing.T) {
	for _, c := range append(truthful(200), full()) {
		all := truths(c)
		for _, place := range some(c) {
			h := hang(t, c, place)
			reached := map[[2]int]bool{}
			for _, numbers := range all {
				if !closet.ProveTruth(c, numbers) {
					t.Errorf("ProveTruth of %v, %v", c, numbers)
				}
				minutes := play(t, c, place, numbers)
				for n, minute := range minutes {
					r, g := h.bounds[n], h.good[n]
					if minute < r.Lo || minute > r.Hi {
						t.Errorf("Bounds of %v, %v: %v, though there is %v", c, place, h.bounds, numbers)
					}
					reached[[2]int{n, minute}] = true
					if g != none && (!isRight(c, minutes, n, g.Lo) || !isRight(c, minutes, n, g.Hi) || g.Hi > c.Close || g.Lo < 0) {
						t.Errorf("Good of %v, %v: %v, though there is %v", c, place, h.good, numbers)
					}
				}
			}
			for n, r := range h.bounds {
				if !reached[[2]int{n, r.Lo}] || !reached[[2]int{n, r.Hi}] {
					t.Errorf("Bounds of %v, %v: %v, of which an end is not reached", c, place, h.bounds)
				}
			}
		}
		if l := leave(t, c); len(l) > 0 {
			t.Errorf("Leave of %v: %v", c, l)
		}
	}
}

// P4.7: what is right always, or never, is so in each truth; and the good minutes are those until Close that are right always.
func TestRightInEachTruth(t *testing.T) {
	for i, c := range append(truthful(100), full()) {
		place := some(c)[i%3]
		h, all := hang(t, c, place), played(c, place, truths(c))
		for n := range c.Horses {
			for minute := range 100 {
				v := right(t, c, place, n, minute)
				isGood := h.good[n].Lo <= minute && minute <= h.good[n].Hi
				if isGood != (v == always && minute <= c.Close) {
					t.Errorf("Right of %v, %v, %d, %d: %d; Good: %v", c, place, n, minute, v, h.good)
				}
				for _, minutes := range all {
					if is := isRight(c, minutes, n, minute); v == always && !is || v == never && is {
						t.Errorf("Right of %v, %v, %d, %d: %d, though there is %v", c, place, n, minute, v, minutes)
					}
				}
			}
		}
	}
}

// P4.7: looks that are right with some dry numbers need not be left out, whichever others there are.
func TestLooksThatAreRight(t *testing.T) {
	for _, c := range many(200) {
		for _, set := range sets(c) {
			if canLeave(c, set) {
				if l := leave(t, without(c, set)); len(l) > 0 {
					t.Errorf("Leave of %v without %v: %v", c, set, l)
				}
			}
		}
	}
}

// P4.8: no good placement is done before the best one, nor in the same minute and lexicographically before it.
func TestNoSooner(t *testing.T) {
	ties := 0
	for _, c := range append(truthful(300), full()) {
		a := ask(t, c)
		if a.done >= 0 && !closet.ProvePlace(c, a.place, a.done) {
			t.Errorf("ProvePlace of %v, %v, %d", c, a.place, a.done)
		}
		for _, place := range placements(c) {
			if a.done < 0 {
				if closet.ProvePlace(c, place, 99) {
					t.Errorf("Best of %v: none, though there is %v", c, place)
				}
				continue
			}
			if closet.ProvePlace(c, place, a.done-1) {
				t.Errorf("Best of %v: %v, though there is %v", c, a, place)
			}
			if closet.ProvePlace(c, place, a.done) && !slices.Equal(place, a.place) {
				ties++
				if slices.Compare(place, a.place) < 0 {
					t.Errorf("Best of %v: %v, though there is %v", c, a, place)
				}
			}
		}
	}
	if ties < 100 {
		t.Errorf("the closets have %d ties", ties)
	}
}

// P4.9: all horses before the first one without a good minute have one, and this one has none.
func TestStuck(t *testing.T) {
	seen := map[int]int{}
	for _, c := range append(truthful(300), full()) {
		for _, place := range some(c) {
			h := hang(t, c, place)
			seen[h.stuck]++
			for n, r := range h.good {
				if (h.stuck < 0 || n < h.stuck) && r == none || n == h.stuck && r != none {
					t.Errorf("Stuck of %v, %v: %d, though the good minutes are %v", c, place, h.stuck, h.good)
				}
			}
			if h.stuck >= len(c.Horses) || (h.stuck < 0) != closet.ProvePlace(c, place, 99) {
				t.Errorf("Stuck of %v, %v: %d", c, place, h.stuck)
			}
		}
	}
	if seen[-1] < 50 || seen[0] < 50 || seen[1] < 20 || seen[2] < 5 {
		t.Errorf("the closets do not try enough: %v", seen)
	}
}

// P4.10: with a smaller Wet, or smaller dry numbers, no dry minute is greater.
func TestDrier(t *testing.T) {
	tried := 0
	for _, c := range append(many(150), full()) {
		all := allDry(c)
		for i := 0; i < len(all); i += 1 + len(all)/7 {
			for _, place := range some(c) {
				minutes := play(t, c, place, all[i])
				for n := range c.Horses {
					less := copied(c)
					less.Horses[n].Wet--
					if len(valid([]closet.Closet{less})) > 0 {
						checkDrier(t, c, less, place, all[i], minutes)
						tried++
					}
					numbers := slices.Clone(all[i])
					numbers[n]--
					if numbers[n] >= c.Horses[n].Dry.Lo {
						checkDrier(t, c, c, place, numbers, minutes)
						tried++
					}
				}
			}
		}
	}
	if tried < 1000 {
		t.Errorf("tried %d", tried)
	}
}

// checkDrier asks the drier closets, which may have smaller dry numbers.
func checkDrier(t *testing.T, c, less closet.Closet, place, numbers, minutes []int) {
	t.Helper()
	for n, minute := range play(t, less, place, numbers) {
		if minute > minutes[n] {
			t.Errorf("Play of %v: %v; of %v, %v, %v: the horse %d in %d", c, minutes, less, place, numbers, n, minute)
		}
	}
}

// P4.10: with a greater Grace, or a greater Close, good minutes stay good, and the best placement is not done later.
func TestMoreTime(t *testing.T) {
	tried, more := 0, 0
	for _, c := range append(truthful(200), full()) {
		later := c
		later.Close++
		others := []closet.Closet{later}
		for n := range c.Horses {
			longer := copied(c)
			longer.Horses[n].Grace++
			others = append(others, longer)
		}
		a := ask(t, c)
		for _, o := range valid(others) {
			tried++
			b := ask(t, o)
			if !notLater(b.done, a.done) {
				t.Errorf("Best of %v: %v; of %v: %v", c, a, o, b)
			}
			for _, place := range some(c) {
				h, i := hang(t, c, place), hang(t, o, place)
				if !allWithin(h.good, i.good) {
					t.Errorf("Good of %v, %v: %v; of %v: %v", c, place, h.good, o, i.good)
				}
				if !slices.Equal(h.good, i.good) {
					more++
				}
			}
		}
	}
	if tried < 300 || more < 300 {
		t.Errorf("the closets do not try enough: %d, %d", tried, more)
	}
}

// turned is the placement the other way.
func turned(c closet.Closet, place []int) []int {
	out := slices.Clone(place)
	for n := range out {
		out[n] = c.Closets - 1 - out[n]
	}
	return out
}

// areApart reports whether no two horses are in next closets.
func areApart(place []int) bool {
	place = slices.Sorted(slices.Values(place))
	for n := 1; n < len(place); n++ {
		if place[n] == place[n-1]+1 {
			return false
		}
	}
	return true
}

// P4.11: if all horses hang the other way all minutes are the same; if no two are next to each other the dry minutes are the dry numbers.
func TestTheOtherWay(t *testing.T) {
	apart := 0
	for _, c := range append(truthful(150), full()) {
		back := c
		back.Hung = turned(c, c.Hung)
		all := allDry(c)
		for _, place := range placements(c) {
			other := turned(c, place)
			h := hang(t, c, place)
			for _, i := range []hung{hang(t, c, other), hang(t, back, place), hang(t, back, other)} {
				if !slices.Equal(h.bounds, i.bounds) || !slices.Equal(h.good, i.good) || h.stuck != i.stuck {
					t.Errorf("answers of %v, %v: %v; the other way: %v", c, place, h, i)
				}
			}
			for n := 0; n < len(all); n += 1 + len(all)/5 {
				minutes := play(t, c, place, all[n])
				if !slices.Equal(minutes, play(t, c, other, all[n])) {
					t.Errorf("Play of %v, %v, %v: %v, but not the other way", c, place, all[n], minutes)
				}
				if areApart(place) {
					apart++
					if !slices.Equal(minutes, all[n]) {
						t.Errorf("Play of %v, %v, %v: %v", c, place, all[n], minutes)
					}
				}
			}
		}
	}
	if apart < 200 {
		t.Errorf("the closets have %d placements apart", apart)
	}
}

// looked returns the closets with one more look, for some looks, each of them at the end and at the front.
func looked(c closet.Closet) []closet.Closet {
	var out []closet.Closet
	for n := range c.Horses {
		lo := dryMinutes(c, c.Hung, firstDry(c))[n]
		size := c.Horses[n].Dry.Hi - c.Horses[n].Dry.Lo
		for minute := max(lo-1, 0); minute <= lo+size; minute += 1 + size/4 {
			for _, l := range []closet.Look{dry(n, minute), damp(n, minute)} {
				behind, before := copied(c), copied(c)
				behind.Looks, before.Looks = append(behind.Looks, l), slices.Insert(before.Looks, 0, l)
				out = append(out, behind, before)
			}
		}
	}
	return valid(out)
}

// verdicts returns Right of all minutes of the horses.
func verdicts(t *testing.T, c closet.Closet, place []int) []int {
	t.Helper()
	var out []int
	for n := range c.Horses {
		for minute := 0; minute <= 99; minute++ {
			out = append(out, right(t, c, place, n, minute))
		}
	}
	return out
}

// P4.12: with one more look nothing is less sure, and at most one more look has to be left out.
func TestOneMoreLook(t *testing.T) {
	with, without := 0, 0
	for i, c := range append(many(150), full()) {
		others := looked(c)
		few := len(leave(t, c))
		for _, o := range others {
			if n := len(leave(t, o)); n < few || n > few+1 {
				t.Errorf("Leave of %v: %v; of %v: %v", c, leave(t, c), o, leave(t, o))
			}
		}
		if !hasTruth(t, c) {
			continue
		}
		a, place := ask(t, c), some(c)[i%3]
		h, before := hang(t, c, place), verdicts(t, c, place)
		for n, o := range others {
			if !hasTruth(t, o) {
				without++
				continue
			}
			with++
			b, i := ask(t, o), hang(t, o, place)
			if !allWithin(i.bounds, h.bounds) || !allWithin(h.good, i.good) || !notLater(b.done, a.done) {
				t.Errorf("answers of %v, %v: %v, %v; of %v: %v, %v", c, place, a, h, o, b, i)
			}
			if n%4 != 0 {
				continue
			}
			for m, v := range verdicts(t, o, place) {
				if before[m] != perhaps && v != before[m] {
					t.Errorf("Right of %v, %v, %d, %d: %d; of %v: %d", c, place, m/100, m%100, before[m], o, v)
				}
			}
		}
	}
	if with < 200 || without < 100 {
		t.Errorf("the closets do not try enough: %d, %d", with, without)
	}
}

// wider returns the closets with a Dry that is wider by one.
func wider(c closet.Closet) []closet.Closet {
	var out []closet.Closet
	for n := range c.Horses {
		for _, by := range ranges(-1, 0, 0, 1) {
			w := copied(c)
			r := &w.Horses[n].Dry
			r.Lo, r.Hi = r.Lo+by.Lo, r.Hi+by.Hi
			out = append(out, w)
		}
	}
	return valid(out)
}

// P4.13: with a wider Dry nothing is surer, and no more looks have to be left out.
func TestWider(t *testing.T) {
	tried := 0
	for _, c := range append(many(200), full()) {
		for _, w := range wider(c) {
			if few, many := leave(t, w), leave(t, c); len(few) > len(many) {
				t.Errorf("Leave of %v: %v; of %v: %v", c, many, w, few)
			}
			if !hasTruth(t, c) {
				continue
			}
			tried++
			if a, b := ask(t, c), ask(t, w); !notLater(a.done, b.done) {
				t.Errorf("Best of %v: %v; of %v: %v", c, a, w, b)
			}
			for _, place := range placements(c) {
				h, i := hang(t, c, place), hang(t, w, place)
				if !allWithin(h.bounds, i.bounds) || !allWithin(i.good, h.good) {
					t.Errorf("answers of %v, %v: %v; of %v: %v", c, place, h, w, i)
				}
				if closet.ProvePlace(w, place, 99) && !closet.ProvePlace(c, place, 99) {
					t.Errorf("ProvePlace of %v, %v; of %v", c, place, w)
				}
			}
		}
	}
	if tried < 200 {
		t.Errorf("tried %d", tried)
	}
}

// manyTruths counts by ProveTruth.
func manyTruths(c closet.Closet) int {
	n := 0
	for _, numbers := range allDry(c) {
		if closet.ProveTruth(c, numbers) {
			n++
		}
	}
	return n
}

// P4.14: a look at the best look's horse and minute that says what is so in a truth leaves no more truths than Ask returns, and as many in the worst case; no other look leaves fewer in its worst case.
func TestAsked(t *testing.T) {
	tried := 0
	for _, c := range append(truthful(150), example()) {
		a, all := ask(t, c), manyTruths(c)
		if a.horse < 0 {
			continue
		}
		most := 0
		for _, isDry := range []bool{true, false} {
			o := copied(c)
			o.Looks = append(o.Looks, closet.Look{Horse: a.horse, Minute: a.minute, Dry: isDry})
			if e := closet.CheckCloset(o); e != api.OK {
				t.Fatalf("CheckCloset of %v: %v", o, e)
			}
			most = max(most, manyTruths(o))
			tried++
		}
		if most != a.left || a.left > all {
			t.Errorf("Ask of %v: %v, though %d of %d truths are left", c, a, most, all)
		}
		for n := range c.Horses {
			for minute := range 100 {
				if left := leaves(c, truths(c), n, minute); left < a.left {
					t.Errorf("Ask of %v: %v, though the look at %d in %d leaves %d", c, a, n, minute, left)
				}
			}
		}
	}
	if tried < 100 {
		t.Errorf("tried %d", tried)
	}
}

// P4.15: with one closet more the best placement is not done later; without looks neither is it without the last horse.
func TestMoreRoom(t *testing.T) {
	sooner, fewer := 0, 0
	for _, c := range append(truthful(400), full()) {
		a, more := ask(t, c), c
		more.Closets++
		if closet.CheckCloset(more) == api.OK {
			b := ask(t, more)
			if !notLater(b.done, a.done) {
				t.Errorf("Best of %v: %v; of %v: %v", c, a, more, b)
			}
			if b.done != a.done {
				sooner++
			}
		}
		if len(c.Horses) == 0 {
			continue
		}
		c.Looks = nil
		less := c
		less.Horses, less.Hung = c.Horses[:len(c.Horses)-1], c.Hung[:len(c.Hung)-1]
		if a, b := ask(t, c), ask(t, less); !notLater(b.done, a.done) {
			t.Errorf("Best of %v: %v; of %v: %v", c, a, less, b)
		} else if b.done != a.done {
			fewer++
		}
	}
	if sooner < 20 || fewer < 50 {
		t.Errorf("the closets do not try enough: %d, %d", sooner, fewer)
	}
}

// P4.16: the closets with the looks before the first wrong one have a truth; with this one they have none.
func TestFirstIsTheFirst(t *testing.T) {
	firsts := map[int]int{}
	for _, c := range append(many(500), full()) {
		n, e := closet.First(c)
		if e == api.ErrNone {
			if !hasTruth(t, c) {
				t.Errorf("First of %v: none", c)
			}
			continue
		}
		firsts[n]++
		before, with := c, c
		before.Looks, with.Looks = c.Looks[:n], c.Looks[:n+1]
		if e != api.OK || !hasTruth(t, before) || hasTruth(t, with) {
			t.Errorf("First of %v: %d, %v", c, n, e)
		}
	}
	if firsts[0] < 20 || firsts[1] < 20 || firsts[2] < 5 {
		t.Errorf("the closets do not try enough: %v", firsts)
	}
}

// P4.17: without the smallest set there is a truth; without any list before it there is none.
func TestLeftOut(t *testing.T) {
	lengths := map[int]int{}
	for _, c := range append(many(500), full()) {
		l := leave(t, c)
		lengths[len(l)]++
		if !hasTruth(t, without(c, l)) {
			t.Errorf("Leave of %v: %v", c, l)
		}
		for _, s := range sets(c) {
			if slices.Equal(s, l) {
				break
			}
			if hasTruth(t, without(c, s)) {
				t.Errorf("Leave of %v: %v, not %v", c, l, s)
			}
		}
	}
	if lengths[1] < 50 || lengths[2] < 10 {
		t.Errorf("the closets do not try enough sets: %v", lengths)
	}
}
