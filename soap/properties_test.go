package soap_test

import (
	"math"
	"slices"
	"testing"

	"posser/api"
	"posser/soap"
)

// hasTruth asks a call that needs one.
func hasTruth(t *testing.T, s soap.Slate) bool {
	t.Helper()
	_, e := soap.Owes(s)
	if e != api.OK && e != api.ErrFalse {
		t.Fatalf("Owes of %v: %v", s, e)
	}
	return e == api.OK
}

// proved returns the truths by ProveTruth.
func proved(s soap.Slate) [][]int {
	return slices.DeleteFunc(allOunces(s), func(l []int) bool { return !soap.ProveTruth(s, l) })
}

// within reports whether a range has no number that the other one has not.
func within(inner, outer soap.Range) bool { return outer.Lo <= inner.Lo && inner.Hi <= outer.Hi }

// allWithin reports whether each range is within that of the same number.
func allWithin(inner, outer []soap.Range) bool {
	for n, r := range inner {
		if !within(r, outer[n]) {
			return false
		}
	}
	return len(inner) == len(outer)
}

// P8.7: in each truth what each woman is owed is within its bounds, and the number of the fewest payments within Fewest; all ends are reached.
func TestInEachTruth(t *testing.T) {
	wide := 0
	for _, s := range truthful(500) {
		a := ask(t, s)
		want := append(slices.Clone(a.bounds), a.fewest)
		reached := make([]map[int]bool, len(want))
		for n := range reached {
			reached[n] = map[int]bool{}
		}
		for _, l := range proved(s) {
			for n, value := range append(play(t, s, l), len(settle(t, s, l))) {
				reached[n][value] = true
				if !within(to(value, value), want[n]) {
					t.Errorf("Bounds, Fewest of %v: %v, though there is %v with %d", s, want, l, value)
				}
			}
		}
		for n, r := range want {
			if !reached[n][r.Lo] || !reached[n][r.Hi] {
				t.Errorf("Bounds, Fewest of %v: %v, of which an end is not reached", s, want)
			}
			if r.Lo < r.Hi {
				wide++
			}
		}
		if l := leave(t, s); len(l) > 0 {
			t.Errorf("Leave of %v: %v", s, l)
		}
	}
	if wide < 500 {
		t.Errorf("the slates do not try enough: %d", wide)
	}
}

// P8.7: a woman who owes always, or never, does so, and one who owes perhaps does it in some truths alone.
func TestVerdictsInEachTruth(t *testing.T) {
	for _, s := range truthful(500) {
		a, all := ask(t, s), proved(s)
		owing := make([]int, s.Women)
		for _, l := range all {
			for woman, n := range play(t, s, l) {
				if n < 0 {
					owing[woman]++
				}
			}
		}
		for woman, n := range owing {
			if (a.owes[woman] == always) != (n == len(all)) || (a.owes[woman] == never) != (n == 0) {
				t.Errorf("Owes of %v: %v, though %d does in %d truths of %d", s, a.owes, woman, n, len(all))
			}
		}
	}
}

// P8.7: sayings that are right with some ounces need not be left out, whichever others there are.
func TestSayingsThatAreRight(t *testing.T) {
	tried := 0
	for _, s := range many(300) {
		for _, set := range sets(s) {
			if canLeave(s, set) {
				tried++
				if l := leave(t, without(s, set)); len(l) > 0 || !hasTruth(t, without(s, set)) {
					t.Errorf("Leave of %v without %v: %v", s, set, l)
				}
			}
		}
	}
	if tried < 1000 {
		t.Errorf("tried %d", tried)
	}
}

// P8.8: with any ounces all women together are owed 0, and after payments that settle all nobody is owed anything.
func TestNothingIsLost(t *testing.T) {
	d, moved := &dice{state: 19}, 0
	for _, s := range append(many(300), full()) {
		all := allOunces(s)
		for n := 0; n < len(all); n += 1 + len(all)/20 {
			o, p := play(t, s, all[n]), settle(t, s, all[n])
			if sum(o) != 0 {
				t.Errorf("Play of %v, %v: %v", s, all[n], o)
			}
			if after := settled(o, p); !nobody(after) {
				t.Errorf("Settle of %v, %v: %v, which leaves %v", s, all[n], p, after)
			}
			if s.Women < 2 {
				continue
			}
			for range 5 { // what somebody pays on, is paid back; what is not, is missing
				from := d.below(s.Women)
				other := (from + d.from(1, s.Women-1)) % s.Women
				ounces := d.from(1, 240)
				back := append(slices.Clone(p), pays(from, other, ounces, other, from, ounces)...)
				if !nobody(settled(o, back)) || !soap.ProveSettle(s, all[n], back, len(back)) || soap.ProveSettle(s, all[n], back[:len(back)-1], len(back)) {
					t.Errorf("ProveSettle of %v, %v, %v", s, all[n], back)
				}
				moved++
			}
		}
	}
	if moved < 5000 {
		t.Errorf("moved %d", moved)
	}
}

// allPayments returns all payments of at most so many ounces between so many women.
func allPayments(women, most int) []soap.Payment {
	var out []soap.Payment
	for _, p := range pairs(women) {
		for n := 1; n <= most; n++ {
			out = append(out, pays(p[0], p[1], n, p[1], p[0], n)...)
		}
	}
	return out
}

// greatest returns the most that a woman is owed, or owes.
func greatest(owed []int) int {
	most := 0
	for _, n := range owed {
		most = max(most, n, -n)
	}
	return most
}

// P8.9: no payments that settle all are fewer: all lists of fewer ones are tried, of up to as many ounces as somebody is owed, and one more.
func TestNoFewer(t *testing.T) {
	tried := map[int]int{}
	for _, s := range many(600) {
		l := allOunces(s)[0]
		o, p := play(t, s, l), settle(t, s, l)
		ones := allPayments(s.Women, greatest(o)+1)
		if len(p) > 0 && math.Pow(float64(len(ones)), float64(len(p)-1)) > 1e5 { // so that the test is soon done
			continue
		}
		tried[len(p)]++
		var chosen []soap.Payment
		var choose func(more int)
		choose = func(more int) {
			if nobody(settled(o, chosen)) || len(chosen) < 2 && soap.ProveSettle(s, l, chosen, 9) {
				t.Fatalf("Settle of %v, %v: %v, though there are %v", s, l, p, chosen)
			}
			if more == 0 {
				return
			}
			for _, x := range ones {
				chosen = append(chosen, x)
				choose(more - 1)
				chosen = chosen[:len(chosen)-1]
			}
		}
		if len(p) > 0 {
			choose(len(p) - 1)
		}
	}
	if tried[0] < 10 || tried[1] < 20 || tried[2] < 50 || tried[3] < 50 {
		t.Errorf("the slates do not try enough: %v", tried)
	}
}

// P8.9, P8.10: the fewest payments are as many as women that are not owed 0, less the most groups; they are none if and only if nobody is owed anything.
func TestPaymentsAndGroups(t *testing.T) {
	none, some := 0, map[int]int{}
	for _, s := range append(many(500), full()) {
		all := allOunces(s)
		for n := 0; n < len(all); n += 1 + len(all)/50 {
			o, p, g := play(t, s, all[n]), settle(t, s, all[n]), groups(t, s, all[n])
			if len(p) != notSettled(o)-len(g) {
				t.Errorf("Settle, Groups of %v, %v: %v, %v", s, all[n], p, g)
			}
			if (len(p) == 0) != nobody(o) || (len(g) == 0) != nobody(o) || soap.ProveSettle(s, all[n], nil, 9) != nobody(o) {
				t.Errorf("Settle, Groups of %v, %v: %v, %v, though %v is owed", s, all[n], p, g, o)
			}
			some[len(g)]++
			if nobody(o) {
				none++
			}
		}
	}
	if none < 20 || some[1] < 500 || some[2] < 200 || some[3] < 10 {
		t.Errorf("the slates do not try enough: %d, %v", none, some)
	}
}

// P8.10: each group is owed 0 in sum; no woman is in two, and all that are not owed 0 are in one.
func TestEachGroup(t *testing.T) {
	for _, s := range append(many(500), full()) {
		all := allOunces(s)
		for n := 0; n < len(all); n += 1 + len(all)/50 {
			o := play(t, s, all[n])
			in := make([]int, s.Women)
			for _, group := range groups(t, s, all[n]) {
				total := 0
				for _, woman := range group {
					in[woman]++
					total += o[woman]
				}
				if total != 0 {
					t.Errorf("Groups of %v, %v: %v of %v", s, all[n], group, o)
				}
			}
			for woman, times := range in {
				if (times == 1) != (o[woman] != 0) || times > 1 {
					t.Errorf("Groups of %v, %v: %d is in %d", s, all[n], woman, times)
				}
			}
		}
	}
}

// asEntries is a slate of the payments that settle another one, the other way round, so that as much is owed.
func asEntries(s soap.Slate, payments []soap.Payment) (soap.Slate, []int) {
	out := soap.Slate{Women: s.Women}
	var ounces []int
	for _, p := range payments {
		out.Entries = append(out.Entries, entry(p.To, p.From, p.Ounces, p.Ounces))
		ounces = append(ounces, p.Ounces)
	}
	return out, ounces
}

// P8.11: if one of the payments is added as an entry, one payment fewer settles all.
func TestPaid(t *testing.T) {
	tried := map[int]int{}
	for _, s := range many(600) {
		all := allOunces(s)
		l := all[len(all)/2]
		p := settle(t, s, l)
		same, ounces := asEntries(s, p) // this one has room for an entry, and the other one perhaps
		for _, x := range p {
			for n, of := range []soap.Slate{s, same} {
				paid, with := copied(of), lists(slices.Clone(l), slices.Clone(ounces))[n]
				paid.Entries, paid.Sayings = append(paid.Entries, entry(x.From, x.To, x.Ounces, x.Ounces)), nil
				with = append(with, x.Ounces)
				if soap.CheckSlate(paid) != api.OK {
					continue
				}
				tried[len(p)]++
				if fewer := settle(t, paid, with); len(fewer) != len(p)-1 || !soap.ProveSettle(paid, with, fewer, len(p)-1) {
					t.Errorf("Settle of %v, %v: %v; with %v: %v", of, l, p, x, fewer)
				}
			}
		}
	}
	if tried[1] < 20 || tried[2] < 100 || tried[3] < 200 || tried[4] < 100 || tried[5] < 10 {
		t.Errorf("the slates do not try enough: %v", tried)
	}
}

// P8.12: in another order of the entries all women are owed the same, and as many payments settle all.
func TestOrder(t *testing.T) {
	d, moved := &dice{state: 23}, 0
	for _, s := range append(many(300), full()) {
		other, place := copied(s), make([]int, len(s.Entries))
		for n := range place {
			place[n] = n
			m := d.below(n + 1)
			place[n], place[m] = place[m], place[n]
		}
		for n, m := range place {
			other.Entries[n] = s.Entries[m]
		}
		if !slices.Equal(other.Entries, s.Entries) {
			moved++
		}
		all := allOunces(s)
		for n := 0; n < len(all); n += 1 + len(all)/20 {
			var l []int
			for _, m := range place {
				l = append(l, all[n][m])
			}
			if a, b := play(t, s, all[n]), play(t, other, l); !slices.Equal(a, b) {
				t.Errorf("Play of %v, %v: %v; of %v, %v: %v", s, all[n], a, other, l, b)
			}
			if a, b := settle(t, s, all[n]), settle(t, other, l); len(a) != len(b) || !soap.ProveSettle(s, all[n], b, len(a)) {
				t.Errorf("Settle of %v, %v: %v; of %v, %v: %v", s, all[n], a, other, l, b)
			}
			if a, b := groups(t, s, all[n]), groups(t, other, l); len(a) != len(b) {
				t.Errorf("Groups of %v, %v: %v; of %v, %v: %v", s, all[n], a, other, l, b)
			}
		}
		if a, b := leave(t, s), leave(t, other); !slices.Equal(a, b) || hasTruth(t, s) != hasTruth(t, other) {
			t.Errorf("Leave of %v: %v; of %v: %v", s, a, other, b)
		}
		if hasTruth(t, s) {
			a, b := ask(t, s), ask(t, other)
			if !slices.Equal(a.bounds, b.bounds) || !slices.Equal(a.owes, b.owes) || a.fewest != b.fewest {
				t.Errorf("answers of %v: %v; of %v: %v", s, a, other, b)
			}
		}
	}
	if moved < 100 {
		t.Errorf("moved %d", moved)
	}
}

// minus is the range with the other sign.
func minus(r soap.Range) soap.Range { return to(-r.Hi, -r.Lo) }

// P8.12: with From and To of all entries exchanged each woman is owed as much with the other sign, and as many payments settle all.
func TestTheOtherWayRound(t *testing.T) {
	for _, s := range append(many(300), full()) {
		other := copied(s)
		for n, e := range s.Entries {
			other.Entries[n].From, other.Entries[n].To = e.To, e.From
		}
		for n, x := range s.Sayings {
			other.Sayings[n].Owed = minus(x.Owed)
		}
		all := allOunces(s)
		for n := 0; n < len(all); n += 1 + len(all)/20 {
			a, b := play(t, s, all[n]), play(t, other, all[n])
			for woman := range a {
				if a[woman] != -b[woman] {
					t.Errorf("Play of %v, %v: %v; of %v: %v", s, all[n], a, other, b)
				}
			}
			if p, q := settle(t, s, all[n]), settle(t, other, all[n]); len(p) != len(q) {
				t.Errorf("Settle of %v, %v: %v; of %v: %v", s, all[n], p, other, q)
			}
		}
		if !hasTruth(t, s) {
			continue
		}
		a, b := ask(t, s), ask(t, other)
		for woman, r := range a.bounds {
			if minus(r) != b.bounds[woman] {
				t.Errorf("Bounds of %v: %v; of %v: %v", s, a.bounds, other, b.bounds)
			}
		}
		if a.fewest != b.fewest {
			t.Errorf("Fewest of %v: %v; of %v: %v", s, a.fewest, other, b.fewest)
		}
	}
}

// P8.13: each slate is compared with the one without its last saying.
func TestOneMoreSaying(t *testing.T) {
	tried, narrower, more := 0, 0, 0
	for _, s := range append(many(1000), full()) {
		if len(s.Sayings) == 0 {
			continue
		}
		less := s
		less.Sayings = s.Sayings[:len(s.Sayings)-1]
		few, many := len(leave(t, less)), len(leave(t, s))
		if many < few || many > few+1 {
			t.Errorf("Leave of %v: %d; with a saying less %d", s, many, few)
		}
		if many > few {
			more++
		}
		if !hasTruth(t, s) {
			continue
		}
		tried++
		a, b := ask(t, less), ask(t, s)
		if !allWithin(b.bounds, a.bounds) || !within(b.fewest, a.fewest) {
			t.Errorf("Bounds, Fewest of %v: %v; with a saying less %v", s, b, a)
		}
		for woman, verdict := range a.owes {
			if verdict != perhaps && b.owes[woman] != verdict {
				t.Errorf("Owes of %v: %v; with a saying less %v", s, b.owes, a.owes)
			}
		}
		if !slices.Equal(a.bounds, b.bounds) {
			narrower++
		}
	}
	if tried < 200 || narrower < 50 || more < 50 {
		t.Errorf("the slates do not try enough: %d, %d, %d", tried, narrower, more)
	}
}

// wider are the slates in which one range is wider by one.
func wider(s soap.Slate) []soap.Slate {
	var out []soap.Slate
	for _, by := range ranges(-1, 0, 0, 1) {
		widen := func(r *soap.Range) { r.Lo, r.Hi = r.Lo+by.Lo, r.Hi+by.Hi }
		for n := range s.Entries {
			w := copied(s)
			widen(&w.Entries[n].Ounces)
			out = append(out, w)
		}
		for n := range s.Sayings {
			w := copied(s)
			widen(&w.Sayings[n].Owed)
			out = append(out, w)
		}
	}
	return slices.DeleteFunc(out, func(s soap.Slate) bool { return soap.CheckSlate(s) != api.OK })
}

// P8.14: with wider Ounces or Owed no bounds are narrower, no verdict becomes other than Perhaps, and no more sayings have to be left out.
func TestWider(t *testing.T) {
	tried, changed, fewer := 0, 0, 0
	for _, s := range many(300) {
		l := leave(t, s)
		for _, w := range wider(s) {
			m := leave(t, w)
			if len(m) > len(l) {
				t.Errorf("Leave of %v: %v; of %v: %v", s, l, w, m)
			}
			if len(m) < len(l) {
				fewer++
			}
			if !hasTruth(t, s) {
				continue
			}
			tried++
			a, b := ask(t, s), ask(t, w)
			if !allWithin(a.bounds, b.bounds) || !within(a.fewest, b.fewest) {
				t.Errorf("Bounds, Fewest of %v: %v; of %v: %v", s, a, w, b)
			}
			for woman, verdict := range b.owes {
				if verdict != perhaps && verdict != a.owes[woman] {
					t.Errorf("Owes of %v: %v; of %v: %v", s, a.owes, w, b.owes)
				}
			}
			if !slices.Equal(a.bounds, b.bounds) {
				changed++
			}
		}
	}
	if tried < 1000 || changed < 500 || fewer < 50 {
		t.Errorf("the slates do not try enough: %d, %d, %d", tried, changed, fewer)
	}
}

// P8.15: there is a truth before the first wrong saying, and none with it.
func TestFirstIsTheFirst(t *testing.T) {
	wrong := map[int]int{}
	for _, s := range append(many(800), full()) {
		n, e := soap.First(s)
		if e == api.ErrNone {
			if !hasTruth(t, s) {
				t.Errorf("First of %v: none", s)
			}
			continue
		}
		wrong[n]++
		before, with := s, s
		before.Sayings, with.Sayings = s.Sayings[:n], s.Sayings[:n+1]
		if !hasTruth(t, before) || hasTruth(t, with) || hasTruth(t, s) {
			t.Errorf("First of %v: %d", s, n)
		}
	}
	if wrong[0] < 20 || wrong[1] < 20 || wrong[2] < 20 || wrong[3] < 5 {
		t.Errorf("the slates do not try enough: %v", wrong)
	}
}

// P8.16: without the smallest set there is a truth; without any list before it there is none.
func TestLeftOut(t *testing.T) {
	lengths, later := map[int]int{}, 0
	for _, s := range append(many(800), full()) {
		l := leave(t, s)
		lengths[len(l)]++
		if !hasTruth(t, without(s, l)) {
			t.Errorf("Leave of %v: %v", s, l)
		}
		for _, set := range sets(s) {
			if slices.Equal(set, l) {
				break
			}
			if hasTruth(t, without(s, set)) {
				t.Errorf("Leave of %v: %v, not %v", s, l, set)
			}
			if len(set) == len(l) {
				later++
			}
		}
	}
	if lengths[1] < 50 || lengths[2] < 20 || lengths[3] < 5 || later < 50 {
		t.Errorf("the slates do not try enough sets: %v, %d", lengths, later)
	}
}
