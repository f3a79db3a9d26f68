package sick_test

import (
	"slices"
	"testing"

	"posser/api"
	"posser/bundle"
	"posser/sick"
)

// subset reports whether the list has no number that the other one has not.
func subset(inner, outer []int) bool {
	return !slices.ContainsFunc(inner, func(n int) bool { return !slices.Contains(outer, n) })
}

// hasTruth asks a call that needs one.
func hasTruth(t *testing.T, h sick.House) bool {
	t.Helper()
	_, e := sick.Carry(h)
	if e != api.OK && e != api.ErrFalse {
		t.Fatalf("Carry of %v: %v", h, e)
	}
	return e == api.OK
}

// valid drops the houses that are not.
func valid(l []sick.House) []sick.House {
	return slices.DeleteFunc(l, func(h sick.House) bool { return sick.CheckHouse(h) != api.OK })
}

// P6.6: in each truth what is returned is so, and it is safe with what Boil and Order return; signs that are right need not be left out.
func TestInEachTruth(t *testing.T) {
	some := 0
	for _, h := range slices.Concat(truthful(200), catching(300), []sick.House{full()}) {
		a := ask(t, h)
		if len(leave(t, h)) > 0 {
			t.Errorf("Leave of %v: %v", h, leave(t, h))
		}
		all := slices.DeleteFunc(allCourses(h), func(c sick.Course) bool { return !sick.ProveTruth(h, c) })
		for _, c := range all {
			carry := play(t, h, c)
			for thing, v := range a.carry {
				if is := slices.Contains(carry, thing); v == always && !is || v == never && is {
					t.Errorf("Carry of %v: %v, though %v of %v", h, a.carry, carry, c)
				}
			}
			for _, thing := range carry {
				if thing < len(c.Owners) && !slices.Contains(h.Sick, c.Owners[thing]) && !slices.Contains(a.whose, c.Owners[thing]) {
					t.Errorf("Whose of %v: %v, though %v of %v", h, a.whose, carry, c)
				}
			}
		}
		for hour := range h.Last + 1 {
			if l := fewest(t, h, hour); !safe(h, all, at(hour, l)) {
				t.Errorf("Boil of %v, %d: %v", h, hour, l)
			} else if len(l) > 0 {
				some++
			}
			if l, ok := shortest(t, h, hour); ok && !safe(h, all, from(hour, l)) {
				t.Errorf("Order of %v, %d: %v", h, hour, l)
			}
		}
	}
	if some < 200 {
		t.Errorf("the houses do not try enough: %d", some)
	}
}

// P6.7: no things that keep all safe are before those that Boil returns, and no order is before that of Order.
func TestNoFewer(t *testing.T) {
	things2, orders2, none := 0, 0, 0
	for i, h := range append(catching(400), full()) {
		hour := i % (h.Last + 1)
		want := fewest(t, h, hour)
		if !sick.ProveBoil(h, hour, want, len(want)) || sick.ProveBoil(h, hour, want, len(want)-1) {
			t.Errorf("ProveBoil of %v, %d, %v", h, hour, want)
		}
		for _, l := range sets(things(h)) {
			if slices.Equal(l, want) {
				break
			}
			things2++
			if sick.ProveBoil(h, hour, l, 99) {
				t.Errorf("Boil of %v, %d: %v, not %v", h, hour, want, l)
			}
		}
		if things(h) > 6 {
			continue
		}
		want, ok := shortest(t, h, hour)
		if ok != sick.ProveOrder(h, hour, want, len(want)) {
			t.Errorf("ProveOrder of %v, %d, %v", h, hour, want)
		}
		if !ok {
			none++
		}
		for _, l := range orders(h, hour) {
			if ok && slices.Equal(l, want) {
				break
			}
			orders2++
			if sick.ProveOrder(h, hour, l, 99) {
				t.Errorf("Order of %v, %d: %v, %v; not %v", h, hour, want, ok, l)
			}
		}
	}
	if things2 < 500 || orders2 < 500 || none < 20 {
		t.Errorf("the houses do not try enough: %d, %d, %d", things2, orders2, none)
	}
}

// P6.8: what is boiled in the hour 0 of sick women, or if nobody is sick.
func TestSources(t *testing.T) {
	boiled := 0
	for _, h := range slices.Concat(truthful(200), catching(400), []sick.House{full()}) {
		whose, e := bundle.Whose(h.Table)
		if e != api.OK {
			t.Fatalf("bundle.Whose of %v: %v", h.Table, e)
		}
		var sources []int
		for n, l := range whose {
			if slices.ContainsFunc(l, func(w int) bool { return slices.Contains(h.Sick, w) }) {
				sources = append(sources, n)
			}
		}
		if !sick.ProveBoil(h, 0, sources, len(sources)) {
			t.Errorf("ProveBoil of %v, 0, %v", h, sources)
		}
		boiled += len(sources)
		h.Sick, h.Signs = nil, nil
		a := ask(t, h)
		if !slices.Equal(a.carry, slices.Repeat(list(never), things(h))) || len(a.whose) > 0 {
			t.Errorf("Carry, Whose of %v: %v", h, a)
		}
		for hour := range h.Last + 1 {
			if l := fewest(t, h, hour); len(l) > 0 {
				t.Errorf("Boil of %v, %d: %v", h, hour, l)
			}
		}
	}
	if boiled < 200 {
		t.Errorf("the houses do not try enough: %d", boiled)
	}
}

// touchedMore returns the house with one more touch in one of its hours, and a course of it.
func (d *dice) touchedMore(h sick.House, c sick.Course) (sick.House, sick.Course) {
	h = copied(h)
	a, b, n, hour := d.below(things(h)), d.below(things(h)), d.below(len(h.Touches)+1), d.below(h.Last+1)
	if a == b {
		b = (a + 1) % things(h)
	}
	h.Touches = slices.Insert(h.Touches, n, touch(a, b, hour, hour))
	c.Hours = slices.Insert(slices.Clone(c.Hours), n, hour)
	return h, c
}

// P6.9: with one more touch nothing carries no more, with one more boiling nothing carries anew, in the same course.
func TestMoreTouches(t *testing.T) {
	d := &dice{state: 11}
	more, less := 0, 0
	for _, h := range catching(300) {
		for _, c := range allCourses(h) {
			carry := play(t, h, c)
			if len(h.Touches) < 6 {
				g, x := d.touchedMore(h, c)
				l := play(t, g, x)
				if !subset(carry, l) {
					t.Errorf("Play of %v, %v: %v; of %v, %v: %v", h, c, carry, g, x, l)
				}
				more += len(l) - len(carry)
			}
			if len(h.Boiled) < 4 {
				g := with(h, boil(d.below(things(h)), d.below(h.Last+1)))
				l := play(t, g, c)
				if !subset(l, carry) {
					t.Errorf("Play of %v, %v: %v; of %v: %v", h, c, carry, g, l)
				}
				less += len(carry) - len(l)
			}
		}
	}
	if more < 200 || less < 200 {
		t.Errorf("the houses do not try enough: %d, %d", more, less)
	}
}

// P6.10: one thing is an order, and nothing need be boiled if nobody catches anything.
func TestOneThing(t *testing.T) {
	is, isNot := 0, 0
	for _, h := range slices.Concat(truthful(100), catching(300), []sick.House{full()}) {
		whose := ask(t, h).whose
		for hour := range h.Last + 1 {
			order, ok := shortest(t, h, hour)
			if nobody := len(whose) == 0; (len(fewest(t, h, hour)) == 0) != nobody || (ok && len(order) == 0) != nobody {
				t.Errorf("Whose, Boil, Order of %v, %d: %v, %v, %v", h, hour, whose, fewest(t, h, hour), order)
			}
			for thing := range things(h) {
				one := sick.ProveBoil(h, hour, list(thing), 1)
				if sick.ProveOrder(h, hour, list(thing), 1) != one {
					t.Errorf("ProveBoil, ProveOrder of %v, %d, %d: %v", h, hour, thing, one)
				}
				if len(whose) > 0 && one {
					is++
				} else if len(whose) > 0 {
					isNot++
				}
			}
		}
	}
	if is < 50 || isNot < 50 {
		t.Errorf("the houses do not try enough: %d, %d", is, isNot)
	}
}

// P6.11: with one more sign nothing is less sure.
func TestOneMoreSign(t *testing.T) {
	surer, longer := 0, 0
	for _, h := range slices.Concat(many(150), catching(200)) {
		if len(h.Signs) == 5 {
			continue
		}
		for thing := range things(h) {
			for _, s := range []sick.Sign{free(thing), carries(thing)} {
				g := signed(h, s)
				before, after := leave(t, h), leave(t, g)
				if len(after) < len(before) || len(after) > len(before)+1 {
					t.Errorf("Leave of %v: %v; of %v: %v", h, before, g, after)
				}
				longer += len(after) - len(before)
				if !hasTruth(t, h) || !hasTruth(t, g) {
					continue
				}
				a, b := ask(t, h), ask(t, g)
				for n, v := range a.carry {
					if v != perhaps && b.carry[n] != v {
						t.Errorf("Carry of %v: %v; of %v: %v", h, a.carry, g, b.carry)
					}
					if v != b.carry[n] {
						surer++
					}
				}
				hour := thing % (h.Last + 1)
				if !subset(b.whose, a.whose) || len(fewest(t, g, hour)) > len(fewest(t, h, hour)) {
					t.Errorf("Whose, Boil of %v: %v, %v; of %v: %v, %v", h, a.whose, fewest(t, h, hour), g, b.whose, fewest(t, g, hour))
				}
			}
		}
	}
	if surer < 100 || longer < 100 {
		t.Errorf("the houses do not try enough: %d, %d", surer, longer)
	}
}

// wider returns the houses in which a touch has one hour more.
func wider(h sick.House) []sick.House {
	var out []sick.House
	for n := range h.Touches {
		lower, upper := copied(h), copied(h)
		lower.Touches[n].Hour.Lo--
		upper.Touches[n].Hour.Hi++
		out = append(out, lower, upper)
	}
	return valid(out)
}

// P6.12: with a wider Hour nothing is surer.
func TestWider(t *testing.T) {
	open, more, fewer := 0, 0, 0
	for i, h := range many(1500) {
		for _, g := range wider(h) {
			before, after := leave(t, h), leave(t, g)
			if len(after) > len(before) {
				t.Errorf("Leave of %v: %v; of %v: %v", h, before, g, after)
			}
			fewer += len(before) - len(after)
			if !hasTruth(t, h) {
				continue
			}
			a, b := ask(t, h), ask(t, g)
			for n, v := range b.carry {
				if v != perhaps && a.carry[n] != v {
					t.Errorf("Carry of %v: %v; of %v: %v", h, a.carry, g, b.carry)
				}
				if v != a.carry[n] {
					open++
				}
			}
			hour := i % (h.Last + 1)
			k, l := fewest(t, h, hour), fewest(t, g, hour)
			if len(l) < len(k) {
				t.Errorf("Boil of %v, %d: %v; of %v: %v", h, hour, k, g, l)
			}
			more += len(l) - len(k)
		}
	}
	if open < 100 || more < 50 || fewer < 5 {
		t.Errorf("the houses do not try enough: %d, %d, %d", open, more, fewer)
	}
}

// P6.13: with one more sick woman what carries always still does.
func TestMoreOfThemSick(t *testing.T) {
	kept, more := 0, 0
	for _, h := range append(many(300), full()) {
		h.Signs = nil
		a := ask(t, h)
		for w := range h.Table.Women {
			if slices.Contains(h.Sick, w) {
				continue
			}
			g := h
			g.Sick = slices.Sorted(slices.Values(append(list(w), h.Sick...)))
			b := ask(t, g)
			for n, v := range a.carry {
				if v == always && b.carry[n] != always || b.carry[n] == never && v != never {
					t.Errorf("Carry of %v: %v; of %v: %v", h, a.carry, g, b.carry)
				}
				if v == always {
					kept++
				} else if v != b.carry[n] {
					more++
				}
			}
		}
	}
	if kept < 100 || more < 100 {
		t.Errorf("the houses do not try enough: %d, %d", kept, more)
	}
}

// P6.14: the signs before the first wrong one have a truth; with this one they have none.
func TestFirstIsTheFirst(t *testing.T) {
	firsts := map[int]int{}
	for _, h := range append(many(1500), full()) {
		n, e := sick.First(h)
		if e == api.ErrNone {
			if !hasTruth(t, h) {
				t.Errorf("First of %v: none", h)
			}
			continue
		}
		firsts[n]++
		if e != api.OK || !hasTruth(t, before(h, n)) || hasTruth(t, before(h, n+1)) {
			t.Errorf("First of %v: %d, %v", h, n, e)
		}
	}
	if firsts[0] < 20 || firsts[1] < 20 || firsts[2] < 5 {
		t.Errorf("the houses do not try enough: %v", firsts)
	}
}

// P6.15: without the smallest set there is a truth; without any list before it there is none.
func TestLeftOut(t *testing.T) {
	lengths := map[int]int{}
	for _, h := range append(many(1500), full()) {
		l := leave(t, h)
		lengths[len(l)]++
		if !hasTruth(t, without(h, l)) {
			t.Errorf("Leave of %v: %v", h, l)
		}
		for _, s := range sets(len(h.Signs)) {
			if slices.Equal(s, l) {
				break
			}
			if hasTruth(t, without(h, s)) {
				t.Errorf("Leave of %v: %v, not %v", h, l, s)
			}
		}
	}
	if lengths[0] < 100 || lengths[1] < 50 || lengths[2] < 10 {
		t.Errorf("the houses do not try enough sets: %v", lengths)
	}
}
