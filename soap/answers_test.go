package soap_test

import (
	"math"
	"slices"
	"testing"

	"posser/api"
	"posser/soap"
)

const (
	always  = soap.Always
	never   = soap.Never
	perhaps = soap.Perhaps
)

// answers are what the calls return of a slate that has a truth.
type answers struct {
	bounds []soap.Range
	owes   []int
	fewest soap.Range
}

func ask(t *testing.T, s soap.Slate) answers {
	t.Helper()
	var a answers
	var e [3]api.Errno
	a.bounds, e[0] = soap.Bounds(s)
	a.owes, e[1] = soap.Owes(s)
	a.fewest, e[2] = soap.Fewest(s)
	if e != [3]api.Errno{} || len(a.bounds) != s.Women || len(a.owes) != s.Women {
		t.Fatalf("Bounds, Owes, Fewest of %v: %v, %v", s, a, e)
	}
	return a
}

func play(t *testing.T, s soap.Slate, ounces []int) []int {
	t.Helper()
	l, e := soap.Play(s, ounces)
	if e != api.OK || len(l) != s.Women {
		t.Fatalf("Play of %v, %v: %v, %v", s, ounces, l, e)
	}
	return l
}

func settle(t *testing.T, s soap.Slate, ounces []int) []soap.Payment {
	t.Helper()
	l, e := soap.Settle(s, ounces)
	if e != api.OK {
		t.Fatalf("Settle of %v, %v: %v, %v", s, ounces, l, e)
	}
	return l
}

func groups(t *testing.T, s soap.Slate, ounces []int) [][]int {
	t.Helper()
	l, e := soap.Groups(s, ounces)
	if e != api.OK {
		t.Fatalf("Groups of %v, %v: %v, %v", s, ounces, l, e)
	}
	return l
}

func leave(t *testing.T, s soap.Slate) []int {
	t.Helper()
	l, e := soap.Leave(s)
	if e != api.OK {
		t.Fatalf("Leave of %v: %v, %v", s, l, e)
	}
	return l
}

// samePayments reports whether they are the same in some order.
func samePayments(a, b []soap.Payment) bool {
	isMissing := func(p soap.Payment) bool { return !slices.Contains(b, p) }
	return len(a) == len(b) && !slices.ContainsFunc(a, isMissing)
}

// sameGroups reports whether they are the same in some order.
func sameGroups(a, b [][]int) bool {
	a, b = slices.Clone(a), slices.Clone(b)
	slices.SortFunc(a, slices.Compare)
	slices.SortFunc(b, slices.Compare)
	return slices.EqualFunc(a, b, slices.Equal)
}

// Each row of the chapter's table of examples.
func TestExamples(t *testing.T) {
	s := example()
	if len(allOunces(s)) != 8 || len(truths(s)) != 8 {
		t.Errorf("truths: %v", truths(s))
	}
	if l, m := play(t, s, list(3, 2, 1)), play(t, s, list(2, 2, 4)); !slices.Equal(l, list(3, -1, -3, 1)) || !slices.Equal(m, list(2, 0, -6, 4)) {
		t.Errorf("Play: %v, %v", l, m)
	}
	a := ask(t, s)
	if !slices.Equal(a.bounds, ranges(2, 3, -1, 0, -6, -3, 1, 4)) || !slices.Equal(a.owes, list(never, perhaps, always, never)) || a.fewest != to(2, 3) {
		t.Errorf("Bounds, Owes, Fewest: %v", a)
	}
	if l := settle(t, s, list(2, 2, 4)); !samePayments(l, pays(2, 0, 2, 2, 3, 4)) {
		t.Errorf("Settle of 2, 2, 4: %v", l)
	}
	if l := settle(t, s, list(3, 2, 1)); !samePayments(l, pays(2, 0, 3, 1, 3, 1)) {
		t.Errorf("Settle of 3, 2, 1: %v", l)
	}
	if l := groups(t, s, list(3, 2, 1)); !sameGroups(l, lists(list(0, 2), list(1, 3))) {
		t.Errorf("Groups of 3, 2, 1: %v", l)
	}
	if l := groups(t, s, list(2, 2, 4)); !sameGroups(l, lists(list(0, 2, 3))) {
		t.Errorf("Groups of 2, 2, 4: %v", l)
	}
	first, second, third := saying(2, -4, -3), saying(1, -1, -1), saying(0, 2, 2)
	if a := ask(t, example(first)); !slices.Equal(a.bounds, ranges(2, 3, -1, 0, -4, -3, 1, 2)) || a.fewest != to(2, 3) {
		t.Errorf("Bounds, Fewest with the saying 0: %v", a)
	}
	if a := ask(t, example(first, second)); a.fewest != to(2, 3) {
		t.Errorf("Fewest with the sayings 0 and 1: %v", a)
	}
	if n, e := soap.First(example(first, second, third)); n != 2 || e != api.OK {
		t.Errorf("First with all three sayings: %d, %v", n, e)
	}
	if l := leave(t, example(first, second, third)); !slices.Equal(l, list(1)) {
		t.Errorf("Leave with all three sayings: %v", l)
	}
}

// Example 8 of the document: three women who owe each other in a ring, as much each, owe nothing.
func TestRing(t *testing.T) {
	s, ounces := known(3, 0, 1, 7, 1, 2, 7, 2, 0, 7), list(7, 7, 7)
	a := ask(t, s)
	if !slices.Equal(a.bounds, ranges(0, 0, 0, 0, 0, 0)) || !slices.Equal(a.owes, list(never, never, never)) || a.fewest != to(0, 0) {
		t.Errorf("Bounds, Owes, Fewest: %v", a)
	}
	if p, g := settle(t, s, ounces), groups(t, s, ounces); len(p)+len(g) > 0 {
		t.Errorf("Settle, Groups: %v, %v", p, g)
	}
}

// P8.1: Play and ProveTruth agree with the definitions for all ounces of the slates, and around them.
func TestPlayAndProveTruth(t *testing.T) {
	is, isNot, debts := 0, 0, 0
	for _, s := range append(many(600), full()) {
		if e := soap.CheckSlate(s); e != api.OK {
			t.Fatalf("CheckSlate of %v: %v", s, e)
		}
		for _, l := range allOunces(s) {
			want := owed(s, l)
			if got := play(t, s, l); !slices.Equal(got, want) {
				t.Fatalf("Play of %v, %v: %v, not %v", s, l, got, want)
			}
			right := areRight(s, l, 0)
			if soap.ProveTruth(s, l) != right {
				t.Fatalf("ProveTruth of %v, %v: %v", s, l, !right)
			}
			if right {
				is++
			} else {
				isNot++
			}
			if !nobody(want) {
				debts++
			}
		}
		lowest := allOunces(s)[0]
		for n, e := range s.Entries {
			for _, ounces := range list(e.Ounces.Lo-1, e.Ounces.Hi+1) {
				l := slices.Clone(lowest)
				l[n] = ounces
				if got, e := soap.Play(s, l); got != nil || e != api.ErrRange || soap.ProveTruth(s, l) {
					t.Errorf("Play, ProveTruth of %v, %v: %v, %v", s, l, got, e)
				}
			}
		}
	}
	if is < 2000 || isNot < 1000 || debts < 2000 {
		t.Errorf("the slates do not try enough: %d, %d, %d", is, isNot, debts)
	}
}

// P8.1: by hand.
func TestPlayAtItsEdges(t *testing.T) {
	most := soap.Slate{Women: 2, Entries: slices.Repeat([]soap.Entry{entry(0, 1, 0, 2)}, 5)}
	most.Entries = append(most.Entries, entry(0, 1, 40, 40))
	for n := range most.Entries {
		most.Entries[n].Ounces = to(40, 40)
	}
	for _, x := range []struct {
		name         string
		s            soap.Slate
		ounces, want []int
		is           bool
	}{
		{"nobody", soap.Slate{}, nil, nil, true},
		{"no entries", soap.Slate{Women: 3}, nil, list(0, 0, 0), true},
		{"a saying alone", soap.Slate{Women: 1, Sayings: []soap.Saying{saying(0, 0, 0)}}, nil, list(0), true},
		{"a saying alone that is not right", soap.Slate{Women: 1, Sayings: []soap.Saying{saying(0, 1, 240)}}, nil, list(0), false},
		{"no ounces", known(2, 0, 1, 0), list(0), list(0, 0), true},
		{"all ounces", most, list(40, 40, 40, 40, 40, 40), list(240, -240), true},
		{"there and back", known(2, 0, 1, 5, 1, 0, 7), list(5, 7), list(-2, 2), true},
		{"there twice", known(2, 0, 1, 5, 0, 1, 7), list(5, 7), list(12, -12), true},
		{"through another one", known(3, 0, 1, 5, 1, 2, 5), list(5, 5), list(5, 0, -5), true},
		{"to the woman before", known(3, 2, 1, 5), list(5), list(0, -5, 5), true},
		{"one who is beside", known(6, 1, 4, 9), list(9), list(0, 9, 0, 0, -9, 0), true},
		{"a saying at its end", example(saying(2, -6, -6)), list(2, 2, 4), list(2, 0, -6, 4), true},
		{"a saying at its greatest end", example(saying(2, -240, -3)), list(3, 2, 1), list(3, -1, -3, 1), true},
		{"a saying at its least end", example(saying(1, -1, 240)), list(3, 2, 1), list(3, -1, -3, 1), true},
		{"a saying below", example(saying(2, -5, 240)), list(2, 2, 4), list(2, 0, -6, 4), false},
		{"a saying above", example(saying(2, -240, -4)), list(3, 2, 1), list(3, -1, -3, 1), false},
		{"the last one of several sayings", example(saying(0, 3, 3), saying(1, -1, -1), saying(3, 2, 2)), list(3, 2, 1), list(3, -1, -3, 1), false},
		{"the first one of several sayings", example(saying(0, 2, 2), saying(1, -1, -1)), list(3, 2, 1), list(3, -1, -3, 1), false},
		{"no truth", noTruth(), list(3, 2, 2), list(3, -1, -4, 2), false},
	} {
		if got := play(t, x.s, x.ounces); !slices.Equal(got, x.want) || soap.ProveTruth(x.s, x.ounces) != x.is {
			t.Errorf("Play, ProveTruth with %s: %v, %v", x.name, got, !x.is)
		}
	}
}

// P8.2: Bounds and Owes are what the definitions say over all truths.
func TestBoundsAndOwes(t *testing.T) {
	verdicts, wide := map[int]int{}, 0
	for _, s := range append(truthful(1500), full()) {
		a, all := ask(t, s), truths(s)
		for woman := range s.Women {
			owedTo := func(l []int) int { return owed(s, l)[woman] }
			want := bounds(all, owedTo)
			if a.bounds[woman] != want {
				t.Errorf("Bounds of %v: %v, not %v of %d", s, a.bounds, want, woman)
			}
			owing := 0
			for _, l := range all {
				if owedTo(l) < 0 {
					owing++
				}
			}
			verdict := perhaps
			switch owing {
			case len(all):
				verdict = always
			case 0:
				verdict = never
			}
			if a.owes[woman] != verdict {
				t.Errorf("Owes of %v: %v, not %d of %d", s, a.owes, verdict, woman)
			}
			verdicts[verdict]++
			if want.Lo < want.Hi {
				wide++
			}
		}
	}
	if verdicts[always] < 200 || verdicts[never] < 200 || verdicts[perhaps] < 200 || wide < 500 {
		t.Errorf("the slates do not try enough: %v, %d", verdicts, wide)
	}
}

// P8.2: by hand; nobody owes who is owed 0.
func TestBoundsAndOwesAtTheirEdges(t *testing.T) {
	both := func(lo, hi int, l ...soap.Saying) soap.Slate {
		return soap.Slate{Women: 2, Entries: []soap.Entry{entry(0, 1, 5, 5), entry(1, 0, lo, hi)}, Sayings: l}
	}
	for _, x := range []struct {
		s    soap.Slate
		want []soap.Range
		owes []int
	}{
		{soap.Slate{}, nil, nil},
		{soap.Slate{Women: 2}, ranges(0, 0, 0, 0), list(never, never)},
		{both(4, 5), ranges(0, 1, -1, 0), list(never, perhaps)},
		{both(5, 5), ranges(0, 0, 0, 0), list(never, never)},
		{both(3, 4), ranges(1, 2, -2, -1), list(never, always)},
		{both(5, 6), ranges(-1, 0, 0, 1), list(perhaps, never)},
		{both(6, 7), ranges(-2, -1, 1, 2), list(always, never)},
		{both(4, 6), ranges(-1, 1, -1, 1), list(perhaps, perhaps)},
		{both(4, 6, saying(0, 0, 9)), ranges(0, 1, -1, 0), list(never, perhaps)},
		{both(4, 6, saying(1, 0, 0)), ranges(0, 0, 0, 0), list(never, never)},
		{both(4, 6, saying(1, 0, 9), saying(0, -1, -1)), ranges(-1, -1, 1, 1), list(always, never)},
		{example(saying(0, 2, 2)), ranges(2, 2, 0, 0, -6, -3, 1, 4), list(never, never, always, never)},
		{example(saying(1, -1, -1), saying(3, 2, 4)), ranges(3, 3, -1, -1, -6, -4, 2, 4), list(never, always, always, never)},
	} {
		if a := ask(t, x.s); !slices.Equal(a.bounds, x.want) || !slices.Equal(a.owes, x.owes) {
			t.Errorf("Bounds, Owes of %v: %v", x.s, a)
		}
	}
}

// arePayments reports whether the payments are such between women of the slate.
func arePayments(s soap.Slate, payments []soap.Payment) bool {
	isWoman := func(n int) bool { return 0 <= n && n < s.Women }
	return !slices.ContainsFunc(payments, func(p soap.Payment) bool {
		return !isWoman(p.From) || !isWoman(p.To) || p.From == p.To || p.Ounces < 1 || p.Ounces > 240
	})
}

// P8.3: the payments of Settle settle all, and are as few as the definitions say; ProveSettle accepts them, and no fewer.
func TestSettle(t *testing.T) {
	c, lengths := counted{}, map[int]int{}
	for _, s := range many(1000) {
		for _, l := range allOunces(s) {
			p, o := settle(t, s, l), owed(s, l)
			if !arePayments(s, p) || !nobody(settled(o, p)) || len(p) != c.fewest(o) {
				t.Fatalf("Settle of %v, %v: %v; not %d", s, l, p, c.fewest(o))
			}
			if !soap.ProveSettle(s, l, p, len(p)) || !soap.ProveSettle(s, l, p, len(p)+1) || soap.ProveSettle(s, l, p, len(p)-1) {
				t.Fatalf("ProveSettle of %v, %v, %v", s, l, p)
			}
			lengths[len(p)]++
		}
	}
	if lengths[0] < 50 || lengths[1] < 50 || lengths[2] < 200 || lengths[3] < 200 || lengths[4] < 200 || lengths[5] < 100 {
		t.Errorf("the slates do not try enough: %v", lengths)
	}
}

// P8.3, P8.4: by hand.
func TestSettleAndGroupsAtTheirEdges(t *testing.T) {
	for _, x := range []struct {
		owed         []int
		many, groups int
	}{
		{nil, 0, 0},
		{list(0), 0, 0},
		{list(0, 0, 0, 0, 0, 0), 0, 0},
		{list(1, -1), 1, 1},
		{list(-40, 40), 1, 1},
		{list(0, 0, 1, 0, -1), 1, 1},
		{list(2, -1, -1), 2, 1},
		{list(-2, 1, 1), 2, 1},
		{list(1, 1, -1, -1), 2, 2},
		{list(1, -1, 1, -1), 2, 2},
		{list(2, 2, -1, -3), 3, 1},
		{list(5, -2, -3, 0), 2, 1},
		{list(3, -3, 5, -5, 7, -7), 3, 3},
		{list(3, 5, 7, -7, -3, -5), 3, 3},
		{list(4, 4, 4, -4, -4, -4), 3, 3},
		{list(9, -4, -5, 8, -2, -6), 4, 2},
		{list(9, 8, -4, -2, -5, -6), 4, 2},
		{list(1, 2, -3, -1, -2, 3), 3, 3}, // not 1, 2, -3 and the others
		{list(1, 2, -3, 4, -4), 3, 2},
		{list(1, 2, 3, -6, 5, -5), 4, 2},
		{list(5, 1, 1, -3, -2, -2), 4, 2},
		{list(1, 2, 4, 8, -6, -9), 4, 2},
		{list(1, 2, 4, 8, -10, -5), 4, 2},
		{list(1, 3, 9, 27, -20, -20), 5, 1},
		{list(16, -1, -2, -4, -8, -1), 5, 1},
		{list(10, 10, 10, -15, -15), 4, 1},
		{list(-40, -40, -40, 40, 40, 40), 3, 3},
		{list(20, 20, 20, 20, -40, -40), 4, 2},
	} {
		s := owing(x.owed...)
		l := allOunces(s)[0]
		p, g := settle(t, s, l), groups(t, s, l)
		if len(p) != x.many || !soap.ProveSettle(s, l, p, x.many) || !nobody(settled(x.owed, p)) || len(g) != x.groups {
			t.Errorf("Settle, Groups of %v: %v, %v", x.owed, p, g)
		}
	}
}

// P8.3: one payment can be of as many ounces as all entries together.
func TestTheGreatestPayment(t *testing.T) {
	s := soap.Slate{Women: 2, Entries: slices.Repeat([]soap.Entry{entry(1, 0, 40, 40)}, 6)}
	if p := settle(t, s, list(40, 40, 40, 40, 40, 40)); !slices.Equal(p, pays(0, 1, 240)) {
		t.Errorf("Settle of %v: %v", s, p)
	}
}

// P8.3: what ProveSettle accepts, by hand.
func TestProveSettleAtItsEdges(t *testing.T) {
	ounces, right := list(2, 2, 4), pays(2, 0, 2, 2, 3, 4)
	with := func(l ...int) []soap.Payment { return append(slices.Clone(right), pays(l...)...) }
	bad, ring := example(), known(3, 0, 1, 7, 1, 2, 7, 2, 0, 7)
	bad.Women = 3
	for n, x := range []struct {
		s        soap.Slate
		ounces   []int
		payments []soap.Payment
		many     int
		want     bool
	}{
		{example(), ounces, right, 2, true},
		{example(), ounces, right, 3, true},
		{example(), ounces, right, 1, false},
		{example(), ounces, right, 0, false},
		{example(), ounces, right, math.MaxInt, true},
		{example(), ounces, right, math.MinInt, false},
		{example(), ounces, pays(2, 3, 4, 2, 0, 2), 2, true},
		{example(), ounces, pays(2, 3, 3, 2, 0, 2, 2, 3, 1), 3, true},
		{example(), ounces, pays(2, 0, 6, 0, 3, 4), 2, true},
		{example(), ounces, pays(2, 1, 6, 1, 0, 2, 1, 3, 4), 3, true},
		{example(), ounces, with(0, 1, 240, 1, 0, 240), 4, true},
		{example(), ounces, with(0, 1, 240, 1, 0, 240), 3, false},
		{example(), ounces, with(0, 1, 1, 1, 3, 1, 3, 0, 1), 5, true},
		{example(), ounces, slices.Concat(right, slices.Repeat(pays(0, 1, 9, 1, 0, 9), 50)), 102, true},
		{example(), ounces, with(0, 1, 241, 1, 0, 241), 9, false},
		{example(), ounces, with(0, 1, 0), 9, false},
		{example(), ounces, with(0, 1, -1, 1, 0, -1), 9, false},
		{example(), ounces, with(0, 1, 1, 0, 1, -1), 9, false},
		{example(), ounces, with(1, 1, 3), 9, false},
		{example(), ounces, with(4, 1, 1, 1, 4, 1), 9, false},
		{example(), ounces, with(0, 4, 1, 4, 0, 1), 9, false},
		{example(), ounces, with(-1, 1, 1, 1, -1, 1), 9, false},
		{example(), ounces, with(5, 5, 1), 9, false},
		{example(), ounces, with(4, 5, 1, 5, 4, 1), 9, false},
		{example(), ounces, with(math.MaxInt, math.MinInt, 1), 9, false},
		{example(), ounces, with(0, 1, math.MaxInt, 1, 0, math.MaxInt), 9, false},
		{example(), ounces, with(0, 1, math.MinInt, 0, 1, math.MinInt), 9, false},
		{example(), ounces, with(0, 1, 1), 9, false},
		{example(), ounces, right[:1], 9, false},
		{example(), ounces, pays(0, 2, 2, 3, 2, 4), 9, false},
		{example(), ounces, pays(2, 0, 2, 2, 3, 5), 9, false},
		{example(), ounces, pays(2, 0, 2, 2, 1, 4), 9, false},
		{example(), ounces, nil, 9, false},
		{example(), list(2, 2, 3), right, 9, false},
		{example(), list(2, 2, 3), pays(2, 0, 2, 2, 3, 3), 2, true},
		{example(), list(2, 3, 4), right, 9, false},
		{example(), list(2, 2, 5), pays(2, 0, 2, 2, 3, 5), 9, false},
		{example(), list(2, 2), pays(2, 0, 2), 9, false},
		{example(), list(2, 2, 4, 0), right, 9, false},
		{example(), nil, nil, 9, false},
		{noTruth(), ounces, right, 2, true}, // sayings are not asked about
		{bad, ounces, right, 9, false},
		{ring, list(7, 7, 7), nil, 0, true},
		{ring, list(7, 7, 7), nil, -1, false},
		{ring, list(7, 7, 7), pays(0, 1, 5, 1, 2, 5, 2, 0, 5), 3, true},
		{ring, list(7, 7, 7), pays(0, 1, 5), 3, false},
		{soap.Slate{}, nil, nil, 0, true},
		{soap.Slate{}, nil, nil, -1, false},
		{soap.Slate{}, nil, pays(0, 0, 1), 9, false},
		{soap.Slate{Women: -1}, nil, nil, 9, false},
	} {
		if is := soap.ProveSettle(x.s, x.ounces, x.payments, x.many); is != x.want {
			t.Errorf("row %d: ProveSettle of %v, %v, %v, %d: %v", n, x.s, x.ounces, x.payments, x.many, is)
		}
	}
}

// P8.4: the groups of Groups are groups that are apart, and as many as the definitions say.
func TestGroups(t *testing.T) {
	numbers, sizes := map[int]int{}, map[int]int{}
	for _, s := range many(1000) {
		for _, l := range allOunces(s) {
			g, o := groups(t, s, l), owed(s, l)
			if len(g) != mostGroups(o) {
				t.Fatalf("Groups of %v, %v: %v, not %d", s, l, g, mostGroups(o))
			}
			seen := 0
			for _, group := range g {
				total := 0
				for n, woman := range group {
					if woman < 0 || woman >= s.Women || n > 0 && group[n-1] >= woman || o[woman] == 0 {
						t.Fatalf("Groups of %v, %v: %v of %v", s, l, g, o)
					}
					total += o[woman]
				}
				if len(group) == 0 || total != 0 {
					t.Fatalf("Groups of %v, %v: %v of %v", s, l, g, o)
				}
				seen += len(group)
				sizes[len(group)]++
			}
			all := slices.Concat(g...)
			slices.Sort(all)
			if seen != notSettled(o) || len(slices.Compact(all)) != seen {
				t.Fatalf("Groups of %v, %v: %v of %v", s, l, g, o)
			}
			numbers[len(g)]++
		}
	}
	if numbers[0] < 50 || numbers[1] < 500 || numbers[2] < 200 || numbers[3] < 20 || sizes[2] < 200 || sizes[3] < 200 || sizes[4] < 200 || sizes[5] < 200 || sizes[6] < 100 {
		t.Errorf("the slates do not try enough: %v, %v", numbers, sizes)
	}
}

// P8.5: Fewest is what the definitions say over all truths.
func TestFewest(t *testing.T) {
	c, seen := counted{}, map[soap.Range]int{}
	for _, s := range append(truthful(1500), full()) {
		want := bounds(truths(s), func(l []int) int { return c.fewest(owed(s, l)) })
		if a := ask(t, s); a.fewest != want {
			t.Errorf("Fewest of %v: %v, not %v", s, a.fewest, want)
		}
		seen[want]++
	}
	if len(seen) < 12 || seen[to(0, 0)] < 20 || seen[to(2, 3)] < 20 || seen[to(2, 4)] < 10 || seen[to(3, 4)] < 20 || seen[to(4, 5)] < 5 {
		t.Errorf("the slates do not try enough: %v", seen)
	}
}

// P8.5: by hand.
func TestFewestAtItsEdges(t *testing.T) {
	for _, x := range []struct {
		name string
		s    soap.Slate
		want soap.Range
	}{
		{"nobody", soap.Slate{}, to(0, 0)},
		{"no entries", soap.Slate{Women: 6}, to(0, 0)},
		{"perhaps nothing", soap.Slate{Women: 2, Entries: []soap.Entry{entry(0, 1, 0, 1)}}, to(0, 1)},
		{"something", soap.Slate{Women: 2, Entries: []soap.Entry{entry(0, 1, 1, 2)}}, to(1, 1)},
		{"perhaps paid back", soap.Slate{Women: 2, Entries: []soap.Entry{entry(0, 1, 1, 2), entry(1, 0, 1, 2)}}, to(0, 1)},
		{"surely not paid back", soap.Slate{Women: 2, Entries: []soap.Entry{entry(0, 1, 3, 4), entry(1, 0, 1, 2)}}, to(1, 1)},
		{"a saying that all is paid back", soap.Slate{Women: 2, Entries: []soap.Entry{entry(0, 1, 1, 2), entry(1, 0, 1, 2)}, Sayings: []soap.Saying{saying(1, 0, 0)}}, to(0, 0)},
		{"a saying that not all is paid back", soap.Slate{Women: 2, Entries: []soap.Entry{entry(0, 1, 1, 2), entry(1, 0, 1, 2)}, Sayings: []soap.Saying{saying(1, 1, 9)}}, to(1, 1)},
		{"two who owe as much perhaps", soap.Slate{Women: 4, Entries: []soap.Entry{entry(0, 1, 2, 2), entry(2, 1, 2, 2), entry(2, 3, 1, 3)}}, to(2, 3)},
		{"the example, in which one is settled", example(saying(0, 2, 2)), to(2, 2)},
		{"the example, in which nobody is settled", example(saying(1, -1, -1), saying(3, 2, 4)), to(3, 3)},
		{"from none to five", soap.Slate{Women: 6, Entries: []soap.Entry{entry(0, 1, 0, 2), entry(0, 2, 0, 2), entry(0, 3, 0, 2), entry(0, 4, 0, 2), entry(0, 5, 0, 2)}}, to(0, 5)},
	} {
		if a := ask(t, x.s); a.fewest != x.want {
			t.Errorf("Fewest of %s: %v", x.name, a.fewest)
		}
	}
}

// P8.6: First and Leave are what the definitions say.
func TestFirstAndLeave(t *testing.T) {
	firsts, lengths := map[int]int{}, map[int]int{}
	for _, s := range append(many(800), full()) {
		n := -1
		for i := range s.Sayings {
			shorter := s
			shorter.Sayings = s.Sayings[:i+1]
			if len(truths(shorter)) == 0 {
				n = i
				break
			}
		}
		got, e := soap.First(s)
		if n < 0 && (got != 0 || e != api.ErrNone) || n >= 0 && (got != n || e != api.OK) {
			t.Errorf("First of %v: %d, %v; not %d", s, got, e, n)
		}
		all := sets(s)
		want := all[slices.IndexFunc(all, func(l []int) bool { return canLeave(s, l) })]
		if l := leave(t, s); !slices.Equal(l, want) {
			t.Errorf("Leave of %v: %v, not %v", s, l, want)
		}
		firsts[n]++
		lengths[len(want)]++
	}
	if firsts[-1] < 100 || firsts[0] < 20 || firsts[1] < 20 || firsts[2] < 20 || firsts[3] < 10 || firsts[4] < 5 || lengths[1] < 50 || lengths[2] < 20 || lengths[3] < 5 {
		t.Errorf("the slates do not try enough: %v, %v", firsts, lengths)
	}
}

// P8.6: by hand, with sayings of women who are owed from 2 to 3, -1 to 0, -6 to -3 and 1 to 4.
func TestFirstAndLeaveAtTheirEdges(t *testing.T) {
	for _, x := range []struct {
		sayings []soap.Saying
		first   int
		e       api.Errno
		leave   []int
	}{
		{nil, 0, api.ErrNone, nil},
		{[]soap.Saying{saying(0, 2, 2)}, 0, api.ErrNone, nil},
		{[]soap.Saying{saying(0, 3, 240)}, 0, api.ErrNone, nil},
		{[]soap.Saying{saying(0, 4, 240)}, 0, api.OK, list(0)},
		{[]soap.Saying{saying(0, -240, 1)}, 0, api.OK, list(0)},
		{[]soap.Saying{saying(2, 0, 9)}, 0, api.OK, list(0)},
		{[]soap.Saying{saying(0, 2, 2), saying(0, 3, 3)}, 1, api.OK, list(0)},
		{[]soap.Saying{saying(0, 2, 2), saying(1, -1, -1)}, 1, api.OK, list(0)},
		{[]soap.Saying{saying(0, 2, 2), saying(1, 0, 0), saying(2, -6, -3)}, 0, api.ErrNone, nil},
		{[]soap.Saying{saying(0, 2, 2), saying(1, -1, -1), saying(0, 2, 3)}, 1, api.OK, list(0)},
		{[]soap.Saying{saying(1, -1, -1), saying(0, 2, 3), saying(1, 0, 0), saying(0, 2, 2)}, 2, api.OK, list(0)},
		{[]soap.Saying{saying(1, -1, -1), saying(0, 3, 3), saying(1, 0, 0)}, 2, api.OK, list(2)},
		{[]soap.Saying{saying(2, -3, -3), saying(0, 3, 3), saying(3, 2, 4)}, 2, api.OK, list(0)},
		{[]soap.Saying{saying(2, -6, -6), saying(3, 1, 1)}, 1, api.OK, list(0)},
		{[]soap.Saying{saying(3, 1, 2), saying(0, 9, 9), saying(3, 3, 4), saying(3, 1, 1)}, 1, api.OK, list(1, 2)},
		{[]soap.Saying{saying(0, 9, 9), saying(1, 9, 9), saying(2, 9, 9), saying(3, 9, 9), saying(0, 8, 8)}, 0, api.OK, list(0, 1, 2, 3, 4)},
		{[]soap.Saying{saying(0, 2, 3), saying(1, -1, 0), saying(2, -6, -3), saying(3, 1, 4), saying(3, 5, 5)}, 4, api.OK, list(4)},
	} {
		s := example(x.sayings...)
		if n, e := soap.First(s); n != x.first || e != x.e {
			t.Errorf("First of %v: %d, %v", x.sayings, n, e)
		}
		if l := leave(t, s); !slices.Equal(l, x.leave) {
			t.Errorf("Leave of %v: %v", x.sayings, l)
		}
	}
}
