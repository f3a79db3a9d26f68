package soap_test

import (
	"math"
	"slices"
	"testing"

	"posser/api"
	"posser/soap"
)

// call is a call of the package with its results in one form; its other arguments are right for the slate of the examples.
type call struct {
	name   string
	of     func(s soap.Slate) (zero bool, e api.Errno) // zero: each result but the error is the zero value
	truths bool                                        // whether it asks for a truth
}

func calls() []call {
	ounces := func() []int { return list(3, 2, 2) }
	return []call{
		{"CheckSlate", func(s soap.Slate) (bool, api.Errno) { return true, soap.CheckSlate(s) }, false},
		{"Play", func(s soap.Slate) (bool, api.Errno) { l, e := soap.Play(s, ounces()); return len(l) == 0, e }, false},
		{"Bounds", func(s soap.Slate) (bool, api.Errno) { l, e := soap.Bounds(s); return len(l) == 0, e }, true},
		{"Owes", func(s soap.Slate) (bool, api.Errno) { l, e := soap.Owes(s); return len(l) == 0, e }, true},
		{"Settle", func(s soap.Slate) (bool, api.Errno) { l, e := soap.Settle(s, ounces()); return len(l) == 0, e }, false},
		{"Groups", func(s soap.Slate) (bool, api.Errno) { l, e := soap.Groups(s, ounces()); return len(l) == 0, e }, false},
		{"Fewest", func(s soap.Slate) (bool, api.Errno) { r, e := soap.Fewest(s); return r == soap.Range{}, e }, true},
		{"First", func(s soap.Slate) (bool, api.Errno) { n, e := soap.First(s); return n == 0, e }, false},
		{"Leave", func(s soap.Slate) (bool, api.Errno) { l, e := soap.Leave(s); return len(l) == 0, e }, false},
	}
}

// change is one of the slate of the examples, with sayings that have no truth, and the error that it then has.
type change struct {
	name string
	to   func(s *soap.Slate)
	want api.Errno
}

// changes are at both sides of each limit.
func changes() []change {
	return slices.Concat(changesOfWomen(), changesOfEntries(), changesOfSizes(), changesOfSayings(), changesOfTwoThings())
}

func changesOfWomen() []change {
	women := func(n int) func(s *soap.Slate) { return func(s *soap.Slate) { s.Women = n } }
	alone := func(n int) func(s *soap.Slate) { return func(s *soap.Slate) { *s = soap.Slate{Women: n} } }
	return []change{
		{"nothing", func(s *soap.Slate) {}, api.OK},
		{"as much as is allowed", func(s *soap.Slate) { *s = full() }, api.OK},
		{"6 women", women(6), api.OK},
		{"7 women", women(7), api.ErrLimit},
		{"the most women", women(math.MaxInt), api.ErrLimit},
		{"3 women, though there are entries of a fourth", women(3), api.ErrArg},
		{"0 women, though there are entries", women(0), api.ErrArg},
		{"0 women alone", alone(0), api.OK},
		{"1 woman alone", alone(1), api.OK},
		{"6 women alone", alone(6), api.OK},
		{"7 women alone", alone(7), api.ErrLimit},
		{"-1 women", women(-1), api.ErrArg},
		{"-1 women alone", alone(-1), api.ErrArg},
		{"the fewest women alone", alone(math.MinInt), api.ErrArg},
		{"0 women, a saying", func(s *soap.Slate) { *s = soap.Slate{Sayings: make([]soap.Saying, 1)} }, api.ErrArg},
		{"1 woman, a saying", func(s *soap.Slate) { *s = soap.Slate{Women: 1, Sayings: make([]soap.Saying, 1)} }, api.OK},
		{"1 woman, an entry", func(s *soap.Slate) { *s = soap.Slate{Women: 1, Entries: make([]soap.Entry, 1)} }, api.ErrArg},
		{"0 women, an entry", func(s *soap.Slate) { *s = soap.Slate{Entries: []soap.Entry{entry(0, 1, 0, 0)}} }, api.ErrArg},
	}
}

func changesOfEntries() []change {
	many := func(n int) func(s *soap.Slate) {
		return func(s *soap.Slate) { s.Entries = slices.Repeat([]soap.Entry{entry(0, 1, 1, 1)}, n) }
	}
	is := func(n, from, other, lo, hi int) func(s *soap.Slate) {
		return func(s *soap.Slate) { s.Entries[n] = entry(from, other, lo, hi) }
	}
	return []change{
		{"no entries", many(0), api.OK},
		{"6 entries", many(6), api.OK},
		{"7 entries", many(7), api.ErrLimit},
		{"many entries", many(1000), api.ErrLimit},
		{"7 entries of nothing", func(s *soap.Slate) { s.Entries = make([]soap.Entry, 7) }, api.ErrLimit},
		{"an entry from the last woman", is(0, 3, 0, 2, 3), api.OK},
		{"an entry to the last woman", is(0, 0, 3, 2, 3), api.OK},
		{"an entry from the woman 4", is(0, 4, 0, 2, 3), api.ErrArg},
		{"an entry to the woman 4", is(0, 0, 4, 2, 3), api.ErrArg},
		{"an entry from the woman -1", is(0, -1, 0, 2, 3), api.ErrArg},
		{"an entry to the woman -1", is(0, 0, -1, 2, 3), api.ErrArg},
		{"an entry from a woman to herself", is(0, 1, 1, 2, 3), api.ErrArg},
		{"an entry from nobody to nobody", is(0, -1, -1, 2, 3), api.ErrArg},
		{"an entry from the greatest number to the least", is(0, math.MaxInt, math.MinInt, 2, 3), api.ErrArg},
		{"a last entry to the woman 4", is(2, 3, 4, 1, 4), api.ErrArg},
		{"a last entry from a woman to herself", is(2, 3, 3, 1, 4), api.ErrArg},
		{"0 ounces", is(0, 0, 1, 0, 0), api.OK},
		{"40 ounces", is(0, 0, 1, 40, 40), api.OK},
		{"0 to 40 ounces", is(0, 0, 1, 0, 40), api.OK},
		{"41 ounces", is(0, 0, 1, 41, 41), api.ErrArg},
		{"40 to 41 ounces", is(0, 0, 1, 40, 41), api.ErrArg},
		{"-1 to 0 ounces", is(0, 0, 1, -1, 0), api.ErrArg},
		{"-1 ounces", is(0, 0, 1, -1, -1), api.ErrArg},
		{"3 to 2 ounces", is(0, 0, 1, 3, 2), api.ErrArg},
		{"40 to 0 ounces", is(0, 0, 1, 40, 0), api.ErrArg},
		{"all ounces", is(0, 0, 1, math.MinInt, math.MaxInt), api.ErrArg},
		{"no ounces", is(0, 0, 1, math.MaxInt, math.MinInt), api.ErrArg},
		{"no ounces of the last entry", is(2, 3, 2, 2, 1), api.ErrArg},
		{"too many ounces of the last entry", is(2, 3, 2, 1, 41), api.ErrArg},
	}
}

// changesOfSizes are of entries from 0 ounces on.
func changesOfSizes() []change {
	sizes := func(l ...int) func(s *soap.Slate) {
		return func(s *soap.Slate) {
			s.Entries = nil
			for _, n := range l {
				s.Entries = append(s.Entries, entry(0, 1, 0, n-1))
			}
		}
	}
	return []change{
		{"40 by 25 by 2 ounces", sizes(40, 25, 2), api.OK},
		{"2 by 25 by 40 ounces", sizes(2, 25, 40), api.OK},
		{"5 by 5 by 5 by 4 by 4 by 1 ounces", sizes(5, 5, 5, 4, 4, 1), api.OK},
		{"3 by 23 by 29 ounces", sizes(3, 23, 29), api.ErrLimit}, // 2001
		{"41 by 41 ounces", sizes(41, 41), api.OK},
		{"41 by 41 by 2 ounces", sizes(41, 41, 2), api.ErrLimit},
		{"4 by 4 by 4 by 4 by 4 by 2 ounces", sizes(4, 4, 4, 4, 4, 2), api.ErrLimit},
		{"6 by 41 ounces", sizes(41, 41, 41, 41, 41, 41), api.ErrLimit},
		{"6 by 32 ounces", sizes(32, 32, 32, 32, 32, 32), api.ErrLimit},
		{"41 by 49 ounces, which are too many of one", sizes(41, 49), api.ErrArg},
	}
}

func changesOfSayings() []change {
	many := func(n int) func(s *soap.Slate) { return func(s *soap.Slate) { s.Sayings = make([]soap.Saying, n) } }
	is := func(n, woman, lo, hi int) func(s *soap.Slate) {
		return func(s *soap.Slate) { s.Sayings[n] = saying(woman, lo, hi) }
	}
	return []change{
		{"no sayings", many(0), api.OK},
		{"5 sayings", many(5), api.OK},
		{"6 sayings", many(6), api.ErrLimit},
		{"many sayings", many(1000), api.ErrLimit},
		{"a saying of the woman 3", is(0, 3, -4, -3), api.OK},
		{"a saying of the woman 4", is(0, 4, -4, -3), api.ErrArg},
		{"a saying of the woman -1", is(0, -1, -4, -3), api.ErrArg},
		{"a saying of the greatest number", is(0, math.MaxInt, -4, -3), api.ErrArg},
		{"a saying of the least number", is(0, math.MinInt, -4, -3), api.ErrArg},
		{"a last saying of the woman 4", is(2, 4, 2, 2), api.ErrArg},
		{"a saying of all that can be owed", is(0, 2, -240, 240), api.OK},
		{"a saying of 240", is(0, 2, 240, 240), api.OK},
		{"a saying of -240", is(0, 2, -240, -240), api.OK},
		{"a saying to 241", is(0, 2, 0, 241), api.ErrArg},
		{"a saying of 241", is(0, 2, 241, 241), api.ErrArg},
		{"a saying from -241", is(0, 2, -241, 0), api.ErrArg},
		{"a saying of -241", is(0, 2, -241, -241), api.ErrArg},
		{"a saying from -3 to -4", is(0, 2, -3, -4), api.ErrArg},
		{"a saying from 240 to -240", is(0, 2, 240, -240), api.ErrArg},
		{"a saying of all numbers", is(0, 2, math.MinInt, math.MaxInt), api.ErrArg},
		{"a saying of no numbers", is(0, 2, math.MaxInt, math.MinInt), api.ErrArg},
		{"a last saying from 3 to 2", is(2, 0, 3, 2), api.ErrArg},
	}
}

// changesOfTwoThings try the order of the row.
func changesOfTwoThings() []change {
	return []change{
		{"7 women, an entry from a woman to herself", func(s *soap.Slate) { s.Women, s.Entries[0].To = 7, 0 }, api.ErrLimit},
		{"7 women, a saying to 241", func(s *soap.Slate) { s.Women, s.Sayings[0].Owed.Hi = 7, 241 }, api.ErrLimit},
		{"7 entries, -1 women", func(s *soap.Slate) { s.Women, s.Entries = -1, make([]soap.Entry, 7) }, api.ErrLimit},
		{"7 entries, a saying of the woman 4", func(s *soap.Slate) { s.Entries, s.Sayings[0].Woman = make([]soap.Entry, 7), 4 }, api.ErrLimit},
		{"6 sayings, -1 women", func(s *soap.Slate) { s.Women, s.Sayings = -1, make([]soap.Saying, 6) }, api.ErrLimit},
		{"6 sayings, an entry of 41 ounces", func(s *soap.Slate) { s.Sayings, s.Entries[2].Ounces.Hi = make([]soap.Saying, 6), 41 }, api.ErrLimit},
		{"41 by 41 by 2 ounces, -1 women", func(s *soap.Slate) { tooMany(s); s.Women = -1 }, api.ErrArg},
		{"41 by 41 by 2 ounces, an entry from a woman to herself", func(s *soap.Slate) { tooMany(s); s.Entries[2].To = 3 }, api.ErrArg},
		{"41 by 41 by 2 ounces, a saying of the woman 4", func(s *soap.Slate) { tooMany(s); s.Sayings[2].Woman = 4 }, api.ErrArg},
		{"41 by 41 by 2 ounces, a saying to 241", func(s *soap.Slate) { tooMany(s); s.Sayings[2].Owed.Hi = 241 }, api.ErrArg},
		{"41 by 41 by 2 ounces, one more entry of 41", func(s *soap.Slate) { tooMany(s); s.Entries = append(s.Entries, entry(0, 1, 41, 41)) }, api.ErrArg},
	}
}

func tooMany(s *soap.Slate) {
	s.Entries[0].Ounces, s.Entries[1].Ounces, s.Entries[2].Ounces = to(0, 40), to(0, 40), to(1, 2)
}

// P8.1, R1, R2, P1: each call returns the error of the slate, and with it nothing else, whatever its other arguments are.
func TestErrorsOfTheSlate(t *testing.T) {
	for _, x := range changes() {
		s := noTruth()
		x.to(&s)
		if e := soap.CheckSlate(s); e != x.want {
			t.Errorf("CheckSlate with %s: %v, not %v", x.name, e, x.want)
		}
		if x.want == api.OK {
			continue
		}
		for _, y := range calls() {
			if zero, e := y.of(s); e != x.want || !zero {
				t.Errorf("%s with %s: %v, not %v", y.name, x.name, e, x.want)
			}
		}
		for _, ounces := range lists(nil, list(0), list(2, 2, 4), list(0, 0, 1), make([]int, 7), list(-1), list(math.MaxInt)) {
			l, e := soap.Play(s, ounces)
			p, f := soap.Settle(s, ounces)
			g, h := soap.Groups(s, ounces)
			if len(l)+len(p)+len(g) > 0 || e != x.want || f != x.want || h != x.want {
				t.Errorf("Play, Settle, Groups of %v with %s: %v, %v, %v", ounces, x.name, e, f, h)
			}
			if soap.ProveTruth(s, ounces) || soap.ProveSettle(s, ounces, nil, math.MaxInt) || soap.ProveSettle(s, ounces, pays(2, 0, 2, 2, 3, 4), 9) {
				t.Errorf("ProveTruth, ProveSettle of %v with %s", ounces, x.name)
			}
		}
	}
}

// R1, R2: Bounds, Owes and Fewest ask for a truth, and the other calls do not.
func TestErrorsWithoutATruth(t *testing.T) {
	for _, s := range []soap.Slate{noTruth(), example(saying(2, 0, 9)), example(saying(0, 2, 2), saying(1, -1, -1))} {
		for _, y := range calls() {
			zero, e := y.of(s)
			if y.truths && (e != api.ErrFalse || !zero) || !y.truths && e != api.OK {
				t.Errorf("%s of %v: %v, %v", y.name, s, zero, e)
			}
		}
		for _, l := range allOunces(s) {
			o := play(t, s, l)
			if !slices.Equal(o, owed(s, l)) || !nobody(settled(o, settle(t, s, l))) || len(groups(t, s, l)) != mostGroups(o) {
				t.Errorf("Play, Settle, Groups of %v, %v", s, l)
			}
		}
	}
	alone := soap.Slate{Women: 1, Sayings: []soap.Saying{saying(0, 1, 1)}}
	if _, e := soap.Bounds(alone); e != api.ErrFalse {
		t.Errorf("Bounds of %v: %v", alone, e)
	}
}

// R1, R2: Play, Settle and Groups ask for ounces, and the others that take some return false.
func TestErrorsOfOunces(t *testing.T) {
	for _, x := range []struct {
		s      soap.Slate
		ounces []int
		want   api.Errno
	}{
		{example(), list(2, 2, 1), api.OK},
		{example(), list(3, 2, 4), api.OK},
		{example(), list(1, 2, 1), api.ErrRange},
		{example(), list(4, 2, 1), api.ErrRange},
		{example(), list(2, 1, 1), api.ErrRange},
		{example(), list(2, 3, 1), api.ErrRange},
		{example(), list(2, 2, 0), api.ErrRange},
		{example(), list(2, 2, 5), api.ErrRange},
		{example(), list(math.MaxInt, 2, 1), api.ErrRange},
		{example(), list(2, 2, math.MinInt), api.ErrRange},
		{example(), list(2, 2), api.ErrRange},
		{example(), list(2, 2, 1, 0), api.ErrRange},
		{example(), list(2, 2, 1, 1), api.ErrRange},
		{example(), nil, api.ErrRange},
		{example(), make([]int, 99), api.ErrRange},
		{known(2, 0, 1, 0), list(0), api.OK},
		{known(2, 0, 1, 0), nil, api.ErrRange}, // what is missing is not 0
		{known(2, 0, 1, 0), list(0, 0), api.ErrRange},
		{known(2, 0, 1, 0), list(-1), api.ErrRange},
		{soap.Slate{}, nil, api.OK},
		{soap.Slate{}, list(0), api.ErrRange},
		{soap.Slate{Women: 2}, list(0), api.ErrRange},
		{noTruth(), list(1, 2, 1), api.ErrRange},
		{full(), list(36, 36, 0, 37, 37, 40), api.OK},
		{full(), list(36, 36, 0, 37, 37, 39), api.ErrRange},
	} {
		l, e := soap.Play(x.s, x.ounces)
		p, f := soap.Settle(x.s, x.ounces)
		g, h := soap.Groups(x.s, x.ounces)
		if e != x.want || f != x.want || h != x.want || e != api.OK && len(l)+len(p)+len(g) > 0 {
			t.Errorf("Play, Settle, Groups of %v, %v: %v, %v, %v; not %v", x.s, x.ounces, e, f, h, x.want)
		}
		if x.want != api.OK && (soap.ProveTruth(x.s, x.ounces) || soap.ProveSettle(x.s, x.ounces, nil, 9)) {
			t.Errorf("ProveTruth, ProveSettle of %v, %v", x.s, x.ounces)
		}
	}
}

// R1, R2: First returns that no saying is wrong.
func TestErrorsOfFirst(t *testing.T) {
	for _, s := range []soap.Slate{{}, {Women: 6}, example(), example(saying(2, -4, -3)), example(saying(2, -4, -3), saying(1, -1, -1)), owing(3, -3)} {
		if n, e := soap.First(s); n != 0 || e != api.ErrNone {
			t.Errorf("First of %v: %d, %v", s, n, e)
		}
	}
	if n, e := soap.First(example(saying(2, 0, 9))); n != 0 || e != api.OK {
		t.Errorf("First of a first saying that is wrong: %d, %v", n, e)
	}
}

// R3: nil and a list without elements are the same.
func TestNoElements(t *testing.T) {
	for _, s := range []soap.Slate{{Women: 2}, {Women: 2, Entries: []soap.Entry{}, Sayings: []soap.Saying{}}} {
		if a := ask(t, s); !slices.Equal(a.bounds, ranges(0, 0, 0, 0)) || !slices.Equal(a.owes, list(never, never)) || a.fewest != to(0, 0) {
			t.Errorf("answers of %v: %v", s, a)
		}
		if n, e := soap.First(s); n != 0 || e != api.ErrNone || len(leave(t, s)) > 0 {
			t.Errorf("First, Leave of %v: %d, %v", s, n, e)
		}
		for _, l := range lists(nil, list()) {
			if !slices.Equal(play(t, s, l), list(0, 0)) || len(settle(t, s, l))+len(groups(t, s, l)) > 0 || !soap.ProveTruth(s, l) {
				t.Errorf("Play, Settle, Groups, ProveTruth of %v, %v", s, l)
			}
			for _, p := range [][]soap.Payment{nil, {}} {
				if !soap.ProveSettle(s, l, p, 0) || soap.ProveSettle(s, l, p, -1) || soap.ProveSettle(example(), list(2, 2, 4), p, 9) {
					t.Errorf("ProveSettle of %v, %v, %v", s, l, p)
				}
			}
		}
	}
	for _, l := range lists(nil, list()) {
		if _, e := soap.Play(example(), l); e != api.ErrRange || soap.ProveTruth(example(), l) {
			t.Errorf("Play of %v: %v", l, e)
		}
	}
}

// roomy is the slate with its lists at the front of longer ones, so that what is written behind them shows.
func roomy(s soap.Slate) (soap.Slate, func() soap.Slate) {
	all := copied(s)
	all.Entries = append(all.Entries, entry(71, 71, 71, 71), entry(72, 72, 72, 72))
	all.Sayings = append(all.Sayings, saying(73, 73, 73), saying(74, 74, 74))
	front := all
	front.Entries, front.Sayings = all.Entries[:len(s.Entries)], all.Sayings[:len(s.Sayings)]
	return front, func() soap.Slate { return copied(all) }
}

func sameSlates(a, b soap.Slate) bool {
	return a.Women == b.Women && slices.Equal(a.Entries, b.Entries) && slices.Equal(a.Sayings, b.Sayings)
}

// R4: arguments are not written to, nor what lies behind them.
func TestArgumentsAreNotWrittenTo(t *testing.T) {
	for _, of := range []soap.Slate{example(), example(saying(2, -4, -3), saying(1, -1, -1)), noTruth(), full(), owing(9, -4, -5, 8, -2, -6), {Women: 2}} {
		s, all := roomy(of)
		before := all()
		for _, y := range calls() {
			y.of(s)
			if !sameSlates(all(), before) || !sameSlates(s, of) {
				t.Fatalf("%s writes to its argument: %v, not %v", y.name, all(), before)
			}
		}
		ounces := append(slices.Clone(allOunces(of)[0]), 81, 82)
		front := ounces[:len(of.Entries)]
		payments := append(settle(t, of, front), pays(83, 83, 83)...)
		l, p := slices.Clone(ounces), slices.Clone(payments)
		play(t, s, front)
		settle(t, s, front)
		groups(t, s, front)
		soap.ProveTruth(s, front)
		if !soap.ProveSettle(s, front, payments[:len(payments)-1], 9) {
			t.Errorf("ProveSettle of %v, %v, %v", s, front, payments)
		}
		if !slices.Equal(ounces, l) || !slices.Equal(payments, p) || !sameSlates(all(), before) || !sameSlates(s, of) {
			t.Errorf("Play, Settle, Groups, ProveTruth or ProveSettle writes to its arguments: %v, %v, %v", ounces, payments, s)
		}
	}
}

// fill writes over all of the list's memory.
func fill[T any](l []T, with T) {
	l = l[:cap(l)]
	for i := range l {
		l[i] = with
	}
}

// R4: results share no memory with arguments, nor with each other, nor with the results of other calls.
func TestResultsHaveTheirOwnMemory(t *testing.T) {
	of := noTruth()
	of.Women, of.Entries = 6, append(of.Entries, entry(4, 5, 7, 7))
	s, all := roomy(of)
	before, ounces := all(), list(3, 2, 1, 7)
	for range 2 {
		a := ask(t, without(s, list(1)))
		p, g := settle(t, s, ounces), groups(t, s, ounces)
		if len(p) != 3 || !soap.ProveSettle(s, ounces, p, 3) || !sameGroups(g, lists(list(0, 2), list(1, 3), list(4, 5))) || !slices.Equal(a.bounds, ranges(2, 2, 0, 0, -4, -3, 1, 2, 7, 7, -7, -7)) {
			t.Fatalf("Settle, Groups, Bounds: %v, %v, %v", p, g, a.bounds)
		}
		for n := range g {
			for m, group := range g {
				if m > n && (len(group) != 2 || group[0] < 0) {
					t.Fatalf("the groups share memory: %v", g)
				}
			}
			fill(g[n], -99)
		}
		fill(g, nil)
		fill(p, soap.Payment{From: -99, To: -99, Ounces: -99})
		fill(a.bounds, to(-99, -99))
		results := lists(a.owes, play(t, s, ounces), leave(t, s))
		want := lists(list(never, never, always, never, never, always), list(3, -1, -3, 1, 7, -7), list(1))
		for n, l := range results {
			if !slices.Equal(l, want[n]) {
				t.Fatalf("the result %d: %v, not %v", n, l, want[n])
			}
			fill(l, -99)
		}
		if !sameSlates(all(), before) || !slices.Equal(ounces, list(3, 2, 1, 7)) {
			t.Fatalf("a result is in an argument's memory: %v, %v", all(), ounces)
		}
	}
}

// P1: no call panics, whatever its arguments are.
func TestAnyArguments(t *testing.T) {
	numbers := list(0, 1, -1, 2, 3, 4, 5, 6, 7, 40, 41, 240, -240, 241, math.MaxInt, math.MinInt)
	d := &dice{state: 3}
	number := func() int { return numbers[d.below(len(numbers))] }
	aList := func() []int {
		return list(number(), number(), number(), number(), number(), number(), number(), number())[:d.below(9)]
	}
	for range 3000 {
		s := copied(d.thrown(true))
		switch d.below(6) {
		case 0:
			s.Women = number()
		case 1:
			s.Entries = append(s.Entries, entry(number(), number(), number(), number()))
		case 2:
			s.Sayings = append(s.Sayings, saying(number(), number(), number()))
		case 3:
			s = soap.Slate{Women: number(), Entries: make([]soap.Entry, d.below(9)), Sayings: make([]soap.Saying, d.below(9))}
		}
		for _, y := range calls() {
			y.of(s)
		}
		ounces := aList()
		if soap.CheckSlate(s) == api.OK && d.below(2) == 0 {
			ounces = allOunces(s)[0]
		}
		soap.Play(s, ounces)
		soap.Settle(s, ounces)
		soap.Groups(s, ounces)
		soap.ProveTruth(s, ounces)
		soap.ProveSettle(s, ounces, pays(number(), number(), number(), number(), number(), number()), number())
	}
}
