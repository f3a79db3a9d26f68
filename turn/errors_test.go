package turn_test

import (
	"math"
	"slices"
	"testing"

	"posser/api"
	"posser/turn"
)

// call is a call of the package with its results in one form; its other arguments are right for the mangle.
type call struct {
	name   string
	of     func(m turn.Mangle) (zero bool, e api.Errno) // zero: each result but the error is the zero value
	truths bool                                         // whether it asks for a truth
}

func calls() []call {
	return []call{
		{"CheckMangle", func(m turn.Mangle) (bool, api.Errno) { return true, turn.CheckMangle(m) }, false},
		{"Play", func(m turn.Mangle) (bool, api.Errno) { l, e := turn.Play(m, all(m)); return len(l) == 0, e }, false},
		{"Holds", func(m turn.Mangle) (bool, api.Errno) { l, e := turn.Holds(m); return len(l) == 0, e }, true},
		{"Has", func(m turn.Mangle) (bool, api.Errno) { l, e := turn.Has(m); return len(l) == 0, e }, true},
		{"Jumped", func(m turn.Mangle) (bool, api.Errno) { l, e := turn.Jumped(m); return len(l) == 0, e }, true},
		{"Next", func(m turn.Mangle) (bool, api.Errno) { l, e := turn.Next(m); return len(l) == 0, e }, true},
		{"Fewest", func(m turn.Mangle) (bool, api.Errno) {
			l, n, e := turn.Fewest(m)
			return len(l) == 0 && n == 0, e
		}, true},
		{"Look", func(m turn.Mangle) (bool, api.Errno) {
			n, left, e := turn.Look(m)
			return n == 0 && left == 0, e
		}, true},
		{"First", func(m turn.Mangle) (bool, api.Errno) { n, e := turn.First(m); return n == 0, e }, false},
		{"Leave", func(m turn.Mangle) (bool, api.Errno) { l, e := turn.Leave(m); return len(l) == 0, e }, false},
		{"Back", func(m turn.Mangle) (bool, api.Errno) { l, e := turn.Back(m, all(m)); return len(l) == 0, e }, false},
	}
}

// all returns each entry of the mangle: as false entries they are always possible.
func all(m turn.Mangle) []int {
	var out []int
	for n := range m.Entries {
		out = append(out, n)
	}
	return out
}

// change is one of the mangle of the examples, and the error that it then has.
type change struct {
	name string
	to   func(m *turn.Mangle)
	want api.Errno
}

// changes are at both sides of each limit.
func changes() []change {
	return slices.Concat(changesOfWomen(), changesOfTurns(), changesOfEntries(), changesOfUses(), changesOfTwoThings())
}

func changesOfWomen() []change {
	women := func(n int) func(m *turn.Mangle) { return func(m *turn.Mangle) { m.Women = n } }
	wrong := func(n int) func(m *turn.Mangle) { return func(m *turn.Mangle) { m.Wrong = n } }
	return []change{
		{"nothing", func(m *turn.Mangle) {}, api.OK},
		{"as little as is allowed", func(m *turn.Mangle) { *m = small() }, api.OK},
		{"as much as is allowed", func(m *turn.Mangle) { *m = full() }, api.OK},
		{"nothing at all", func(m *turn.Mangle) { *m = turn.Mangle{} }, api.ErrArg},
		{"Women 6", women(6), api.OK},
		{"Women 7", women(7), api.ErrLimit},
		{"the most women", women(math.MaxInt), api.ErrLimit},
		{"Women 3", women(3), api.ErrArg},
		{"Women 0", women(0), api.ErrArg},
		{"Women -1", women(-1), api.ErrArg},
		{"the fewest women", women(math.MinInt), api.ErrArg},
		{"Women -1 of nothing", func(m *turn.Mangle) { *m = turn.Mangle{Women: -1} }, api.ErrArg},
		{"Wrong 0", wrong(0), api.OK},
		{"Wrong -1", wrong(-1), api.ErrArg},
		{"Wrong 8", wrong(8), api.OK},
		{"Wrong 9", wrong(9), api.ErrArg},
		{"the greatest Wrong", wrong(math.MaxInt), api.ErrArg},
		{"the least Wrong", wrong(math.MinInt), api.ErrArg},
		{"Wrong 8 of no entries", func(m *turn.Mangle) { m.Entries, m.Wrong = nil, 8 }, api.OK},
		{"Wrong 9 of no entries", func(m *turn.Mangle) { m.Entries, m.Wrong = nil, 9 }, api.ErrArg},
	}
}

func changesOfTurns() []change {
	turns := func(l ...int) func(m *turn.Mangle) { return func(m *turn.Mangle) { m.Turns = l } }
	return []change{
		{"turns of nobody", turns(none, none, none), api.OK},
		{"turns 3, 2, 1", turns(3, 2, 1), api.OK},
		{"turns 0, None, 0", turns(0, none, 0), api.ErrArg},
		{"turns 1, 1, None", turns(1, 1, none), api.ErrArg},
		{"turns None, 3, 3", turns(none, 3, 3), api.ErrArg},
		{"turns 0, 1, 4", turns(0, 1, 4), api.ErrArg},
		{"turns 0, 1, -2", turns(0, 1, -2), api.ErrArg},
		{"turns -2, 1, 0", turns(-2, 1, 0), api.ErrArg},
		{"a turn of the last of all women", turns(0, 1, math.MaxInt), api.ErrArg},
		{"a turn of the first of all women", turns(math.MinInt, 1, 0), api.ErrArg},
		{"2 turns, of which the third is sold", turns(0, 1), api.ErrArg},
		{"no turns, of which the third is sold", turns(), api.ErrArg},
		{"no turns, and none is sold", func(m *turn.Mangle) { m.Turns, m.Entries = nil, m.Entries[1:] }, api.OK},
		{"6 turns", turns(0, 1, none, none, 3, 2), api.OK},
		{"6 turns of nobody", turns(none, none, none, none, none, none), api.OK},
		{"7 turns", turns(0, 1, none, none, 3, 2, none), api.ErrLimit},
		{"many turns", turns(slices.Repeat(list(none), 1000)...), api.ErrLimit},
	}
}

func changesOfEntries() []change {
	third := func(e turn.Entry) func(m *turn.Mangle) { return func(m *turn.Mangle) { m.Entries[2] = e } }
	many := func(n int) func(m *turn.Mangle) {
		return func(m *turn.Mangle) { m.Entries = slices.Repeat([]turn.Entry{sold(0, 0)}, n) }
	}
	out := []change{
		{"no entries", many(0), api.OK},
		{"8 entries", many(8), api.OK},
		{"9 entries", many(9), api.ErrLimit},
		{"many entries", many(1000), api.ErrLimit},
		{"an entry of the kind 3", third(turn.Entry{Kind: 3, A: 1, B: 2}), api.ErrArg},
		{"an entry of the kind -1", third(turn.Entry{Kind: -1, A: 1, B: 2}), api.ErrArg},
		{"an entry of the last kind", third(turn.Entry{Kind: math.MaxInt, A: 1, B: 2}), api.ErrArg},
		{"an entry of the first kind", third(turn.Entry{Kind: math.MinInt, A: 1, B: 2}), api.ErrArg},
		{"a Sell of the turn 0", third(sold(0, 0)), api.OK},
		{"a Sell of a turn to the woman with its number", third(sold(2, 2)), api.OK},
		{"a Sell of the turn 3", third(sold(3, 2)), api.ErrArg},
		{"a Sell of the turn -1", third(sold(-1, 2)), api.ErrArg},
		{"a Sell of the last of all turns", third(sold(math.MaxInt, 2)), api.ErrArg},
		{"a Sell to the woman 3", third(sold(2, 3)), api.OK},
		{"a Sell to the woman 4", third(sold(2, 4)), api.ErrArg},
		{"a Sell to nobody", third(sold(2, none)), api.ErrArg},
		{"a last entry that is not valid", func(m *turn.Mangle) { m.Entries[3].B = 4 }, api.ErrArg},
	}
	for _, x := range []struct {
		name string
		of   func(a, b int) turn.Entry
	}{{"a Swap", swapped}, {"a Give", given}} {
		name, e := x.name, x.of
		out = append(out,
			change{name + " of 3 and 0", third(e(3, 0)), api.OK},
			change{name + " of 0 and 3", third(e(0, 3)), api.OK},
			change{name + " of 4 and 0", third(e(4, 0)), api.ErrArg},
			change{name + " of 0 and 4", third(e(0, 4)), api.ErrArg},
			change{name + " of -1 and 0", third(e(-1, 0)), api.ErrArg},
			change{name + " of 0 and -1", third(e(0, -1)), api.ErrArg},
			change{name + " of 2 and 2", third(e(2, 2)), api.ErrArg},
			change{name + " of 0 and 0", third(e(0, 0)), api.ErrArg},
			change{name + " of all women", third(e(math.MinInt, math.MaxInt)), api.ErrArg},
		)
	}
	return out
}

func changesOfUses() []change {
	uses := func(l ...int) func(m *turn.Mangle) { return func(m *turn.Mangle) { m.Used = l } }
	return []change{
		{"no use", uses(), api.OK},
		{"a use by each woman", uses(3, 1, 0, 2), api.OK},
		{"a use by nobody", uses(0, none), api.ErrArg},
		{"a use by the woman 4", uses(4, 0), api.ErrArg},
		{"two uses by the woman 1", uses(1, 2, 1), api.ErrArg},
		{"two uses by the woman 0", uses(0, 0), api.ErrArg},
		{"a use by the last of all women", uses(0, math.MaxInt), api.ErrArg},
		{"a use by the first of all women", uses(math.MinInt, 0), api.ErrArg},
		{"many uses", uses(make([]int, 1000)...), api.ErrArg},
	}
}

// changesOfTwoThings try the order of the row.
func changesOfTwoThings() []change {
	return []change{
		{"Women 7, Wrong -1", func(m *turn.Mangle) { m.Women, m.Wrong = 7, -1 }, api.ErrLimit},
		{"Women 7 and nothing", func(m *turn.Mangle) { *m = turn.Mangle{Women: 7} }, api.ErrLimit},
		{"Women 7, two uses", func(m *turn.Mangle) { m.Women, m.Used = 7, list(0, 0) }, api.ErrLimit},
		{"7 turns, Women 0", func(m *turn.Mangle) { m.Turns, m.Women = make([]int, 7), 0 }, api.ErrLimit},
		{"7 turns that are not valid", func(m *turn.Mangle) { m.Turns = slices.Repeat(list(-2), 7) }, api.ErrLimit},
		{"9 entries that are not valid", func(m *turn.Mangle) { m.Entries = slices.Repeat([]turn.Entry{{Kind: 3}}, 9) }, api.ErrLimit},
		{"9 entries, turns 0, 0", func(m *turn.Mangle) { m.Entries, m.Turns = make([]turn.Entry, 9), list(0, 0) }, api.ErrLimit},
		{"9 entries, Women -1", func(m *turn.Mangle) { m.Entries, m.Women = make([]turn.Entry, 9), -1 }, api.ErrLimit},
	}
}

// P5.1, R1, R2, P1: each call returns the error of the mangle, and with it nothing else, whatever its other arguments are.
func TestErrorsOfTheMangle(t *testing.T) {
	for _, x := range changes() {
		m := example(2)
		x.to(&m)
		if e := turn.CheckMangle(m); e != x.want {
			t.Errorf("CheckMangle with %s: %v, not %v", x.name, e, x.want)
		}
		if x.want == api.OK {
			continue
		}
		for _, y := range calls() {
			if zero, e := y.of(m); e != x.want || !zero {
				t.Errorf("%s with %s: %v, not %v", y.name, x.name, e, x.want)
			}
		}
		for _, l := range [][]int{nil, list(2, 3), list(-1), list(0, 0, 0), list(0), list(9)} {
			if l, e := turn.Play(m, l); len(l) > 0 || e != x.want {
				t.Errorf("Play of %v with %s: %v", l, x.name, e)
			}
			if l, e := turn.Back(m, l); len(l) > 0 || e != x.want {
				t.Errorf("Back of %v with %s: %v", l, x.name, e)
			}
			if turn.ProveTruth(m, l) || turn.ProveBack(m, l, nil, 9) {
				t.Errorf("ProveTruth, ProveBack of %v with %s", l, x.name)
			}
		}
		if turn.ProveTruth(m, all(m)) || turn.ProveBack(m, all(m), nil, 9) {
			t.Errorf("ProveTruth, ProveBack with %s", x.name)
		}
	}
}

// R1, R2: the calls that ask for a truth return ErrFalse, and nothing else, if there is none; the others do not.
func TestErrorsWithoutATruth(t *testing.T) {
	twice := slices.Repeat([]turn.Entry{sold(0, 1)}, 8)
	for _, m := range []turn.Mangle{example(0), used(0), with(0, nil, given(0, 1)), with(1, nil, given(0, 1), swapped(0, 1)), with(6, list(none), twice...), with(7, list(1), twice...)} {
		for _, y := range calls() {
			zero, e := y.of(m)
			switch {
			case y.truths && (e != api.ErrFalse || !zero):
				t.Errorf("%s of %v: %v", y.name, m, e)
			case y.name == "Back" && len(m.Used) > 0:
				if e != api.ErrShort || !zero { // if all entries are false
					t.Errorf("Back of %v: %v", m, e)
				}
			case !y.truths && e != api.OK:
				t.Errorf("%s of %v: %v", y.name, m, e)
			}
		}
		for _, out := range sets(m) {
			if turn.ProveTruth(m, out) {
				t.Errorf("ProveTruth of %v, %v", m, out)
			}
		}
	}
}

// R1, R2: what is no false entries is ErrRange, what is not possible ErrFail, whether there is a truth or not; only then Back asks for the turns of the women.
func TestErrorsOfPlayAndBack(t *testing.T) {
	for _, x := range []struct {
		m          turn.Mangle
		out        []int
		play, back api.Errno
	}{
		{example(1), list(3), api.OK, api.OK},
		{example(1), list(2), api.OK, api.ErrShort},
		{example(0), list(3), api.OK, api.OK}, // they do not ask about Wrong
		{example(0), list(2), api.OK, api.ErrShort},
		{example(1), list(0), api.ErrFail, api.ErrFail},
		{example(0), nil, api.ErrFail, api.ErrFail},
		{example(1), list(0, 1), api.ErrFail, api.ErrFail},
		{example(1), list(4), api.ErrRange, api.ErrRange},
		{example(1), list(0, 4), api.ErrRange, api.ErrRange},
		{example(1), list(-1), api.ErrRange, api.ErrRange},
		{example(1), list(-1, 2), api.ErrRange, api.ErrRange},
		{example(1), list(2, 2), api.ErrRange, api.ErrRange},
		{example(1), list(3, 3), api.ErrRange, api.ErrRange},
		{example(1), list(0, 0), api.ErrRange, api.ErrRange},
		{example(4), list(3, 2), api.ErrRange, api.ErrRange},
		{example(4), list(0, 1, 3, 2), api.ErrRange, api.ErrRange},
		{example(4), list(0, 1, 2, 3, 4), api.ErrRange, api.ErrRange},
		{example(1), list(math.MaxInt), api.ErrRange, api.ErrRange},
		{example(1), list(math.MinInt, 3), api.ErrRange, api.ErrRange},
		{example(0), make([]int, 1000), api.ErrRange, api.ErrRange},
		{used(0, 1, 3), list(3, 3), api.ErrRange, api.ErrRange}, // the woman 1 holds no turn
		{used(0, 1, 3), list(0), api.ErrFail, api.ErrFail},
		{used(0, 1, 3), list(3), api.OK, api.ErrShort},
		{used(0, 3, 1), list(3), api.OK, api.ErrShort},
		{used(0, 3, 0, 2), list(3), api.OK, api.OK},
		{used(0, 0, 1, 2, 3), list(3), api.OK, api.ErrShort},
		{plain(list(0, 1), 2), nil, api.OK, api.ErrShort},
		{plain(list(0, 1), 2), list(0), api.ErrRange, api.ErrRange},
		{plain(nil, 0), nil, api.OK, api.ErrShort},
		{small(), nil, api.OK, api.OK},
		{small(), list(0), api.ErrRange, api.ErrRange},
		{full(), nil, api.OK, api.OK},
		{full(), list(8), api.ErrRange, api.ErrRange},
	} {
		if l, e := turn.Play(x.m, x.out); e != x.play || e != api.OK && len(l) > 0 || e == api.OK && len(l) != len(x.m.Turns) {
			t.Errorf("Play of %v, %v: %v, %v; not %v", x.m, x.out, l, e, x.play)
		}
		l, e := turn.Back(x.m, x.out)
		if e != x.back || e != api.OK && len(l) > 0 {
			t.Errorf("Back of %v, %v: %v, %v; not %v", x.m, x.out, l, e, x.back)
		}
		if turn.ProveBack(x.m, x.out, l, 9) != (x.back == api.OK) {
			t.Errorf("ProveBack of %v, %v, %v", x.m, x.out, l)
		}
	}
}

// R1, R2: what there is not.
func TestErrorsOfLookAndFirst(t *testing.T) {
	for _, x := range []struct {
		m           turn.Mangle
		look, first api.Errno
	}{
		{example(1), api.OK, api.OK},
		{example(0), api.ErrFalse, api.OK},
		{with(0, list(0, 1), swapped(0, 1)), api.OK, api.ErrNone},
		{with(0, list(0), given(1, 2)), api.ErrFalse, api.OK},
		{plain(list(0, 1), 2), api.ErrNone, api.ErrNone},
		{small(), api.ErrNone, api.ErrNone},
		{full(), api.OK, api.ErrNone},
		{turn.Mangle{}, api.ErrArg, api.ErrArg},
		{turn.Mangle{Women: 7}, api.ErrLimit, api.ErrLimit},
	} {
		if n, left, e := turn.Look(x.m); e != x.look || e != api.OK && (n != 0 || left != 0) {
			t.Errorf("Look of %v: %d, %d, %v; not %v", x.m, n, left, e, x.look)
		}
		if n, e := turn.First(x.m); e != x.first || e != api.OK && n != 0 {
			t.Errorf("First of %v: %d, %v; not %v", x.m, n, e, x.first)
		}
	}
}

// R3: nil and a list without elements are the same.
func TestNoElements(t *testing.T) {
	for _, m := range []turn.Mangle{{Women: 2}, {Women: 2, Turns: []int{}, Entries: []turn.Entry{}, Used: []int{}}} {
		a := ask(t, m)
		if len(a.holds) > 0 || !slices.Equal(a.has, list(never, never)) || len(a.jumped) > 0 || !slices.Equal(a.next, list(none)) || len(a.best) > 0 || a.many != 0 || a.entry != -1 || len(leave(t, m)) > 0 {
			t.Errorf("answers of %v: %v", m, a)
		}
		for _, l := range [][]int{nil, {}} {
			if len(play(t, m, l)) > 0 || !turn.ProveTruth(m, l) {
				t.Errorf("Play, ProveTruth of %v, %v", m, l)
			}
			for _, s := range [][]turn.Swap{nil, {}} {
				if !turn.ProveBack(m, l, s, 0) || turn.ProveBack(m, l, s, -1) {
					t.Errorf("ProveBack of %v, %v, %v", m, l, s)
				}
			}
			if s, e := turn.Back(m, l); len(s) > 0 || e != api.OK {
				t.Errorf("Back of %v, %v: %v, %v", m, l, s, e)
			}
		}
	}
	for _, l := range [][]int{nil, {}} {
		if _, e := turn.Play(example(1), l); e != api.ErrFail || turn.ProveTruth(example(1), l) {
			t.Errorf("Play, ProveTruth of %v: %v", l, e)
		}
		if !slices.Equal(play(t, full(), l), list(5, 0, 4, 3, 1, 2)) || !turn.ProveTruth(full(), l) {
			t.Errorf("Play, ProveTruth of %v", l)
		}
	}
}

// roomy is the mangle with its lists at the front of longer ones, so that what is written behind them shows.
func roomy(m turn.Mangle) (of, all turn.Mangle) {
	all = copied(m)
	all.Turns = append(all.Turns, 71, 72)
	all.Entries = append(all.Entries, swapped(73, 74), given(75, 76))
	all.Used = append(all.Used, 77, 78)
	of = all
	of.Turns, of.Entries, of.Used = all.Turns[:len(m.Turns)], all.Entries[:len(m.Entries)], all.Used[:len(m.Used)]
	return of, all
}

func equal(a, b turn.Mangle) bool {
	return a.Women == b.Women && a.Wrong == b.Wrong && slices.Equal(a.Turns, b.Turns) && slices.Equal(a.Entries, b.Entries) && slices.Equal(a.Used, b.Used)
}

// R4: arguments are not written to, nor what lies behind them.
func TestArgumentsAreNotWrittenTo(t *testing.T) {
	for _, one := range []turn.Mangle{example(0), example(1), example(4), small(), full(), plain(list(0, 1, 2), 2, 1, 0)} {
		m, whole := roomy(one)
		before := copied(whole)
		for _, y := range calls() {
			y.of(m)
			if !equal(whole, before) || !equal(m, one) {
				t.Fatalf("%s writes to its argument: %v, not %v", y.name, whole, before)
			}
		}
		swaps := []turn.Swap{swap(3, 0), swap(0, 3), swap(79, 80)}
		wantSwaps := slices.Clone(swaps)
		for _, set := range sets(one) {
			out := append(set, 81, 82)
			want := slices.Clone(out)
			asked := out[:len(out)-2]
			turn.Play(m, asked)
			turn.Back(m, asked)
			turn.ProveTruth(m, asked)
			turn.ProveBack(m, asked, swaps[:2], 9)
			if !slices.Equal(out, want) || !slices.Equal(swaps, wantSwaps) || !equal(whole, before) {
				t.Fatalf("a call writes to its arguments: %v, %v, %v", whole, out, swaps)
			}
		}
	}
}

// fill writes over all of the list's memory.
func fill[T any](l []T, with T) {
	l = l[:cap(l)]
	for i := range l {
		l[i] = with
	}
}

// R4: results share no memory with arguments, nor with each other, nor with the results of other calls.
func TestResultsHaveTheirOwnMemory(t *testing.T) {
	m, whole := roomy(example(2))
	before, out := copied(whole), list(3)
	for range 3 {
		a, held, set := ask(t, m), play(t, m, out), leave(t, m)
		swaps, e := turn.Back(m, out)
		if !same(a.holds, lists(list(0, 1, 2, 3), list(0, 2, 3), list(none, 1, 2))) || !slices.Equal(a.has, list(always, perhaps, perhaps, perhaps)) || !slices.Equal(a.jumped, list(perhaps, perhaps)) || !slices.Equal(a.next, list(none, 1, 2)) || !slices.Equal(a.best, list(1, 3)) || !slices.Equal(held, list(3, 0, 2)) || !slices.Equal(set, list(2)) || len(swaps) != 1 || e != api.OK {
			t.Fatalf("answers: %v; %v, %v, %v, %v", a, held, set, swaps, e)
		}
		for i, l := range a.holds {
			rest := slices.Concat(a.holds[i+1:]...)
			fill(l, -99)
			if !slices.Equal(slices.Concat(a.holds[i+1:]...), rest) {
				t.Fatalf("a result of Holds is in the memory of another: %v", a.holds)
			}
		}
		fill(a.holds, nil)
		for _, l := range [][]int{a.has, a.jumped, a.next, a.best, held, set} {
			fill(l, -99)
		}
		fill(swaps, swap(-99, -99))
		if !equal(whole, before) || !slices.Equal(out, list(3)) {
			t.Fatalf("a result is in an argument's memory: %v, %v", whole, out)
		}
	}
}

// P1: no call panics, whatever its arguments are.
func TestAnyArguments(t *testing.T) {
	numbers := list(0, 1, -1, 2, 3, 4, 5, 6, 7, 8, 9, -2, math.MaxInt, math.MinInt)
	d := &dice{state: 3}
	number := func() int { return numbers[d.below(len(numbers))] }
	some := func() []int {
		var out []int
		for range d.below(8) {
			out = append(out, number())
		}
		return out
	}
	for range 3000 {
		m := d.thrown(true)
		if d.below(6) == 0 {
			m.Women = number()
		}
		if d.below(6) == 0 {
			m.Wrong = number()
		}
		if d.below(4) == 0 {
			m.Turns = some()
		}
		if d.below(4) == 0 {
			m.Entries = append(m.Entries, turn.Entry{Kind: number(), A: number(), B: number()})
		}
		if d.below(4) == 0 {
			m.Used = some()
		}
		for _, y := range calls() {
			y.of(m)
		}
		swaps := []turn.Swap{swap(number(), number()), swap(number(), number())}[:d.below(3)]
		for _, out := range [][]int{nil, some(), all(m)} {
			turn.Play(m, out)
			turn.Back(m, out)
			turn.ProveTruth(m, out)
			turn.ProveBack(m, out, swaps, number())
		}
	}
}
