package sick_test

import (
	"math"
	"slices"
	"testing"

	"posser/api"
	"posser/bundle"
	"posser/sick"
)

// call is a call of the package with its results in one form; its other arguments are right for the house of the examples.
type call struct {
	name   string
	of     func(h sick.House) (zero bool, e api.Errno) // zero: each result but the error is the zero value
	truths bool                                        // whether it asks for a truth
}

func calls() []call {
	return []call{
		{"CheckHouse", func(h sick.House) (bool, api.Errno) { return true, sick.CheckHouse(h) }, false},
		{"Play", func(h sick.House) (bool, api.Errno) {
			l, e := sick.Play(h, one())
			return len(l) == 0, e
		}, false},
		{"Carry", func(h sick.House) (bool, api.Errno) { l, e := sick.Carry(h); return len(l) == 0, e }, true},
		{"Whose", func(h sick.House) (bool, api.Errno) { l, e := sick.Whose(h); return len(l) == 0, e }, true},
		{"Boil", func(h sick.House) (bool, api.Errno) { l, e := sick.Boil(h, 0); return len(l) == 0, e }, true},
		{"Order", func(h sick.House) (bool, api.Errno) { l, e := sick.Order(h, 0); return len(l) == 0, e }, true},
		{"First", func(h sick.House) (bool, api.Errno) { n, e := sick.First(h); return n == 0, e }, false},
		{"Leave", func(h sick.House) (bool, api.Errno) { l, e := sick.Leave(h); return len(l) == 0, e }, false},
	}
}

// one is a course of the house of the examples.
func one() sick.Course { return course(list(0, 0, 1, 2), list(0, 1, 2)) }

// change is one of the house of the examples, and the error that it then has.
type change struct {
	name string
	to   func(h *sick.House)
	want api.Errno
}

// changes are at both sides of each limit.
func changes() []change {
	return slices.Concat(changesOfThings(), changesOfTables(), changesOfWomen(), changesOfTouches(), changesOfBoilings(), changesOfSigns(), changesOfSizes(), changesOfTwoThings())
}

func changesOfThings() []change {
	others := func(n int) func(h *sick.House) { return func(h *sick.House) { h.Others = n } }
	last := func(n int) func(h *sick.House) { return func(h *sick.House) { h.Last = n } }
	pieces := func(n, others int) func(h *sick.House) {
		return func(h *sick.House) { *h = plain(0); h.Table, h.Others = many2(n), others }
	}
	return []change{
		{"nothing", func(h *sick.House) {}, api.OK},
		{"nothing at all", func(h *sick.House) { *h = sick.House{} }, api.OK},
		{"as much as is allowed", func(h *sick.House) { *h = full() }, api.OK},
		{"Others 6", others(6), api.OK},
		{"Others 7", others(7), api.ErrArg},
		{"Others 10", others(10), api.ErrArg},
		{"Others 11", others(11), api.ErrLimit},
		{"the most Others", others(math.MaxInt), api.ErrLimit},
		{"Others 0, of which one is touched", others(0), api.ErrArg},
		{"Others 0", func(h *sick.House) { h.Others, h.Touches = 0, h.Touches[2:] }, api.OK},
		{"Others -1", func(h *sick.House) { h.Others, h.Touches = -1, nil }, api.ErrArg},
		{"the fewest Others", func(h *sick.House) { h.Others, h.Touches = math.MinInt, nil }, api.ErrArg},
		{"Others 10 alone", func(h *sick.House) { *h = sick.House{Others: 10} }, api.OK},
		{"Others 11 alone", func(h *sick.House) { *h = sick.House{Others: 11} }, api.ErrLimit},
		{"Others -1 alone", func(h *sick.House) { *h = sick.House{Others: -1} }, api.ErrArg},
		{"7 pieces, 3 Others", pieces(7, 3), api.OK},
		{"7 pieces, 4 Others", pieces(7, 4), api.ErrArg},
		{"8 pieces, 2 Others", pieces(8, 2), api.ErrLimit},
		{"Last 5", last(5), api.OK},
		{"Last 6", last(6), api.ErrLimit},
		{"the greatest Last", last(math.MaxInt), api.ErrLimit},
		{"Last 1, with a touch later", last(1), api.ErrArg},
		{"Last 0", func(h *sick.House) { h.Last, h.Touches = 0, nil }, api.OK},
		{"Last -1", func(h *sick.House) { h.Last, h.Touches = -1, nil }, api.ErrArg},
		{"the least Last", func(h *sick.House) { h.Last, h.Touches = math.MinInt, nil }, api.ErrArg},
	}
}

// many2 is a table with so many pieces of one woman, who is the last one of three.
func many2(pieces int) bundle.Table {
	return bundle.Table{
		Women:  []bundle.Woman{woman(1, 0, 0), woman(2, 0, 0), woman(3, 0, 7)},
		Pieces: slices.Repeat([]bundle.Piece{piece(0, 3)}, pieces),
	}
}

func changesOfTables() []change {
	came := func(n, lo, hi int) func(h *sick.House) {
		return func(h *sick.House) { h.Table.Women[n].Came = bundle.Range{Lo: lo, Hi: hi} }
	}
	return []change{
		{"Wrong 5", func(h *sick.House) { h.Table.Wrong = 5 }, api.OK},
		{"Wrong 6", func(h *sick.House) { h.Table.Wrong = 6 }, api.ErrArg},
		{"Wrong -1", func(h *sick.House) { h.Table.Wrong = -1 }, api.ErrArg},
		{"5 women", func(h *sick.House) { h.Table.Women = append(h.Table.Women, woman(3, 0, 0), woman(4, 0, 0)) }, api.OK},
		{"6 women", func(h *sick.House) { h.Table.Women = append(h.Table.Women, make([]bundle.Woman, 3)...) }, api.ErrLimit},
		{"no women", func(h *sick.House) { h.Table.Women = nil }, api.ErrArg},
		{"a piece of nobody", func(h *sick.House) { h.Table.Pieces[0].Marks = list(3) }, api.ErrArg},
		{"a bundle of nobody", func(h *sick.House) { h.Table.Pieces[0].Bundle = 3 }, api.ErrArg},
		{"Came of no numbers", came(0, 2, 1), api.ErrArg},
		{"a count that is wrong", came(2, 2, 2), api.ErrFalse},
		{"other counts that are wrong", came(0, 4, 4), api.ErrFalse},
		{"a count that may be wrong", func(h *sick.House) { came(2, 2, 2)(h); h.Table.Wrong = 1 }, api.OK},
		{"no table", func(h *sick.House) { *h = sick.House{Table: bundle.Table{Wrong: 6}} }, api.ErrArg},
		{"a table without a truth", func(h *sick.House) { *h = sick.House{Table: bundle.Table{Women: []bundle.Woman{woman(0, 1, 1)}}} }, api.ErrFalse},
		{"a table with 2025 owners", func(h *sick.House) { h.Table = wide(2, 3, 0, 4, 2) }, api.ErrLimit},
	}
}

// wide is a table with women who have the mark 1 and the mark 2, and pieces of the first ones, the others and both.
func wide(women, others, first, second, both int) bundle.Table {
	return bundle.Table{
		Women:  append(slices.Repeat([]bundle.Woman{woman(1, 0, 7)}, women), slices.Repeat([]bundle.Woman{woman(2, 0, 7)}, others)...),
		Pieces: slices.Concat(slices.Repeat([]bundle.Piece{piece(0, 1)}, first), slices.Repeat([]bundle.Piece{piece(0, 2)}, second), slices.Repeat([]bundle.Piece{piece(0, 1, 2)}, both)),
	}
}

func changesOfWomen() []change {
	women := func(l ...int) func(h *sick.House) { return func(h *sick.House) { h.Sick = l } }
	return []change{
		{"nobody sick", women(), api.OK},
		{"all sick", women(0, 1, 2), api.OK},
		{"the woman 0 sick", women(0), api.OK},
		{"the woman 3 sick", women(3), api.ErrArg},
		{"the woman -1 sick", women(-1), api.ErrArg},
		{"the last of all women sick", women(0, math.MaxInt), api.ErrArg},
		{"the first of all women sick", women(math.MinInt, 0), api.ErrArg},
		{"the woman 1 sick twice", women(1, 1), api.ErrArg},
		{"the women 2 and 0 sick", women(2, 0), api.ErrArg},
		{"the women 0, 2 and 1 sick", women(0, 2, 1), api.ErrArg},
		{"a woman sick, but there is none", func(h *sick.House) { *h = sick.House{Sick: list(0)} }, api.ErrArg},
		{"many women sick", women(make([]int, 1000)...), api.ErrArg},
	}
}

func changesOfTouches() []change {
	second := func(a, b, lo, hi int) func(h *sick.House) {
		return func(h *sick.House) { h.Touches[1] = touch(a, b, lo, hi) }
	}
	all := func(n int) func(h *sick.House) {
		return func(h *sick.House) { h.Touches = slices.Repeat([]sick.Touch{touch(0, 1, 2, 2)}, n) }
	}
	return []change{
		{"no touches", all(0), api.OK},
		{"6 touches", all(6), api.OK},
		{"7 touches", all(7), api.ErrLimit},
		{"many touches", all(1000), api.ErrLimit},
		{"a touch of 0 and 4", second(0, 4, 0, 1), api.OK},
		{"a touch of 3 and 2", second(3, 2, 0, 1), api.OK},
		{"a touch of 0 and 5", second(0, 5, 0, 1), api.ErrArg},
		{"a touch of 5 and 0", second(5, 0, 0, 1), api.ErrArg},
		{"a touch of -1 and 0", second(-1, 0, 0, 1), api.ErrArg},
		{"a touch of 0 and -1", second(0, -1, 0, 1), api.ErrArg},
		{"a touch of 4 and 4", second(4, 4, 0, 1), api.ErrArg},
		{"a touch of 0 and 0", second(0, 0, 0, 1), api.ErrArg},
		{"a touch of all things", second(math.MinInt, math.MaxInt, 0, 1), api.ErrArg},
		{"a touch in all hours", second(4, 0, 0, 2), api.OK},
		{"a touch in the hour 2", second(4, 0, 2, 2), api.OK},
		{"a touch in the hours to 3", second(4, 0, 2, 3), api.ErrArg},
		{"a touch in the hour 3", second(4, 0, 3, 3), api.ErrArg},
		{"a touch in the hours from -1", second(4, 0, -1, 0), api.ErrArg},
		{"a touch in no hours", second(4, 0, 1, 0), api.ErrArg},
		{"a touch in more than all hours", second(4, 0, math.MinInt, math.MaxInt), api.ErrArg},
		{"a touch in none of more than all hours", second(4, 0, math.MaxInt, math.MinInt), api.ErrArg},
		{"a last touch that is not valid", func(h *sick.House) { h.Touches[2].A = 5 }, api.ErrArg},
	}
}

func changesOfBoilings() []change {
	is := func(l ...sick.Boiling) func(h *sick.House) { return func(h *sick.House) { h.Boiled = l } }
	return []change{
		{"a boiling", is(boil(4, 2)), api.OK},
		{"4 boilings", is(make([]sick.Boiling, 4)...), api.OK},
		{"5 boilings", is(make([]sick.Boiling, 5)...), api.ErrLimit},
		{"many boilings", is(make([]sick.Boiling, 1000)...), api.ErrLimit},
		{"a boiling of 5", is(boil(0, 0), boil(5, 0)), api.ErrArg},
		{"a boiling of -1", is(boil(-1, 0)), api.ErrArg},
		{"a boiling of the last of all things", is(boil(math.MaxInt, 0)), api.ErrArg},
		{"a boiling in the hour 3", is(boil(0, 3)), api.ErrArg},
		{"a boiling in the hour -1", is(boil(0, -1), boil(0, 0)), api.ErrArg},
		{"a boiling in the last of all hours", is(boil(0, math.MaxInt)), api.ErrArg},
		{"a boiling in the first of all hours", is(boil(0, math.MinInt)), api.ErrArg},
		{"a boiling of nothing", func(h *sick.House) { *h = sick.House{Boiled: []sick.Boiling{boil(0, 0)}} }, api.ErrArg},
	}
}

func changesOfSigns() []change {
	is := func(l ...sick.Sign) func(h *sick.House) { return func(h *sick.House) { h.Signs = l } }
	return []change{
		{"a sign", is(carries(4)), api.OK},
		{"5 signs", is(make([]sick.Sign, 5)...), api.OK},
		{"6 signs", is(make([]sick.Sign, 6)...), api.ErrLimit},
		{"many signs", is(make([]sick.Sign, 1000)...), api.ErrLimit},
		{"a sign of 5", is(free(5)), api.ErrArg},
		{"a sign of -1", is(free(0), carries(-1)), api.ErrArg},
		{"a sign of the last of all things", is(carries(math.MaxInt)), api.ErrArg},
		{"a sign of the first of all things", is(free(math.MinInt)), api.ErrArg},
		{"a sign of nothing", func(h *sick.House) { *h = sick.House{Signs: []sick.Sign{free(0)}} }, api.ErrArg},
	}
}

// sized has a table, in which pieces have so many women, and touches with so many hours.
func sized(t bundle.Table, hours ...int) func(h *sick.House) {
	return func(h *sick.House) {
		h.Table, h.Last, h.Touches = t, 5, nil
		for _, n := range hours {
			h.Touches = append(h.Touches, touch(0, 1, 6-n, 5))
		}
	}
}

func changesOfSizes() []change {
	few := example().Table // 12 owners, of which 3 are truths
	return []change{
		{"486 courses of 1944", sized(few, 6, 3, 3, 3), api.OK},
		{"480 courses of 1920", sized(few, 2, 5, 4, 4), api.OK},
		{"540 courses of 2160", sized(few, 6, 6, 5), api.ErrLimit},
		{"2000 owners", sized(wide(2, 3, 4, 0, 3), 1, 1), api.OK},
		{"2000 owners, and 2 hours", sized(wide(2, 3, 4, 0, 3), 1, 2), api.ErrLimit},
		{"2000 owners, of which one is a truth, and 2 hours", func(h *sick.House) {
			sized(wide(2, 3, 4, 0, 3), 2)(h)
			h.Table.Women[0].Came = bundle.Range{Lo: 7, Hi: 7}
		}, api.ErrLimit},
		{"2000 owners and hours", sized(wide(2, 3, 2, 0, 2), 5, 4), api.OK},
		{"2000 hours", sized(many2(2), 5, 5, 5, 4, 4), api.OK},
		{"2025 hours", sized(many2(2), 5, 5, 3, 3, 3, 3), api.ErrLimit},
		{"1944 hours", sized(many2(2), 6, 6, 6, 3, 3), api.OK},
		{"2160 hours", sized(many2(2), 6, 6, 6, 5, 2), api.ErrLimit},
		{"2048 hours", sized(many2(2), 4, 4, 4, 4, 4, 2), api.ErrLimit},
		{"as many hours as there can be", sized(many2(2), 6, 6, 6, 6, 6, 6), api.ErrLimit},
		{"as many of both as there can be", sized(wide(2, 3, 4, 0, 3), 6, 6, 6, 6, 6, 6), api.ErrLimit},
	}
}

// changesOfTwoThings try the order of the row.
func changesOfTwoThings() []change {
	also := func(all ...func(h *sick.House)) func(h *sick.House) {
		return func(h *sick.House) {
			for _, to := range all {
				to(h)
			}
		}
	}
	noTable := func(h *sick.House) { h.Table.Wrong = -1 }
	noTruth := func(h *sick.House) { h.Table.Women[2].Came = bundle.Range{Lo: 2, Hi: 2} }
	large := sized(wide(2, 3, 4, 0, 3), 6, 6)
	return []change{
		{"Last 6, no table", also(noTable, func(h *sick.House) { h.Last = 6 }), api.ErrLimit},
		{"Others 11, no truth of the table", also(noTruth, func(h *sick.House) { h.Others = 11 }), api.ErrLimit},
		{"7 touches, no truth of the table", also(noTruth, func(h *sick.House) { h.Touches = make([]sick.Touch, 7) }), api.ErrLimit},
		{"5 boilings, no table", also(noTable, func(h *sick.House) { h.Boiled = make([]sick.Boiling, 5) }), api.ErrLimit},
		{"6 signs, no table", also(noTable, func(h *sick.House) { h.Signs = make([]sick.Sign, 6) }), api.ErrLimit},
		{"6 signs, Last -1", func(h *sick.House) { h.Signs, h.Last = make([]sick.Sign, 6), -1 }, api.ErrLimit},
		{"7 touches that are not valid, Others -1", func(h *sick.House) { h.Touches, h.Others = make([]sick.Touch, 7), -1 }, api.ErrLimit},
		{"6 women, Last -1", func(h *sick.House) { h.Table.Women, h.Last = make([]bundle.Woman, 6), -1 }, api.ErrLimit},
		{"2025 owners, Last -1", func(h *sick.House) { h.Table, h.Last = wide(2, 3, 0, 4, 2), -1 }, api.ErrLimit},
		{"no truth of the table, Last -1", also(noTruth, func(h *sick.House) { h.Last = -1 }), api.ErrFalse},
		{"no truth of the table, Others 7", also(noTruth, func(h *sick.House) { h.Others = 7 }), api.ErrFalse},
		{"no truth of the table, the woman 3 sick", also(noTruth, func(h *sick.House) { h.Sick = list(3) }), api.ErrFalse},
		{"no truth of the table, many hours", also(sized(example().Table, 6, 6, 6, 6), noTruth), api.ErrFalse},
		{"many courses, the woman 5 sick", also(large, func(h *sick.House) { h.Sick = list(5) }), api.ErrArg},
		{"many courses, 11 things", also(large, func(h *sick.House) { h.Others = 4 }), api.ErrArg},
		{"many courses, no hours", also(large, func(h *sick.House) { h.Touches[1].Hour = to(3, 2) }), api.ErrArg},
		{"many courses, a boiling of 8", also(large, func(h *sick.House) { h.Boiled = []sick.Boiling{boil(8, 0)} }), api.ErrArg},
		{"many courses, a sign of 8", also(large, func(h *sick.House) { h.Signs = []sick.Sign{free(8)} }), api.ErrArg},
	}
}

// P6.1, R1, R2, P1: each call returns the error of the house, and with it nothing else, whatever its other arguments are.
func TestErrorsOfTheHouse(t *testing.T) {
	for _, x := range changes() {
		h := example()
		x.to(&h)
		if e := sick.CheckHouse(h); e != x.want {
			t.Errorf("CheckHouse with %s: %v, not %v", x.name, e, x.want)
		}
		if x.want == api.OK {
			continue
		}
		for _, y := range calls() {
			if zero, e := y.of(h); e != x.want || !zero {
				t.Errorf("%s with %s: %v, not %v", y.name, x.name, e, x.want)
			}
		}
		for _, hour := range list(0, 2, -1, 3, 6, math.MinInt, math.MaxInt) {
			l, e := sick.Boil(h, hour)
			m, f := sick.Order(h, hour)
			if len(l)+len(m) > 0 || e != x.want || f != x.want {
				t.Errorf("Boil, Order of %d with %s: %v, %v", hour, x.name, e, f)
			}
			if sick.ProveBoil(h, hour, list(0, 1, 2, 3), 9) || sick.ProveBoil(h, hour, nil, 9) || sick.ProveOrder(h, hour, list(3), 9) || sick.ProveOrder(h, hour, nil, 9) {
				t.Errorf("ProveBoil, ProveOrder of %d with %s", hour, x.name)
			}
		}
		for _, c := range []sick.Course{one(), {}, course(list(0), nil), course(nil, list(0))} {
			if l, e := sick.Play(h, c); len(l) > 0 || e != x.want || sick.ProveTruth(h, c) {
				t.Errorf("Play, ProveTruth of %v with %s: %v", c, x.name, e)
			}
		}
	}
}

// R1, R2: the calls that ask for a truth return ErrFalse, and nothing else, if there is none; the others do not.
func TestErrorsWithoutATruth(t *testing.T) {
	for _, h := range []sick.House{false2(), example(carries(2)), example(free(0), free(3)), signed(boiled(2), carries(4)), signed(boiled(), free(0), carries(1))} {
		for _, y := range calls() {
			zero, e := y.of(h)
			if (e == api.ErrFalse) != y.truths || !y.truths && e != api.OK || y.truths && !zero {
				t.Errorf("%s of %v: %v", y.name, h, e)
			}
		}
		for hour := range 3 {
			if sick.ProveBoil(h, hour, list(0, 1, 2, 3, 4), 9) || sick.ProveOrder(h, hour, list(3), 9) {
				t.Errorf("ProveBoil, ProveOrder of %v, %d", h, hour)
			}
		}
		for _, c := range allCourses(h) {
			if sick.ProveTruth(h, c) {
				t.Errorf("ProveTruth of %v, %v", h, c)
			}
		}
	}
}

// R1, R2: Play asks for a course, but not about signs.
func TestErrorsOfPlay(t *testing.T) {
	owners, hours := list(0, 0, 1, 2), list(0, 1, 2)
	for _, x := range []struct {
		h             sick.House
		owners, hours []int
		want          api.Errno
	}{
		{example(), owners, hours, api.OK},
		{false2(), owners, hours, api.OK},
		{example(), list(1, 0, 0, 2), hours, api.OK},
		{example(), list(0, 0, 0, 2), hours, api.ErrRange}, // she has one more
		{example(), list(0, 2, 0, 2), hours, api.ErrRange},
		{example(), list(0, 0, 2, 2), hours, api.ErrRange},
		{example(), list(0, 0, 1, 3), hours, api.ErrRange},
		{example(), list(-1, 0, 1, 2), hours, api.ErrRange},
		{example(), list(math.MinInt, 0, 1, math.MaxInt), hours, api.ErrRange},
		{example(), list(0, 0, 1), hours, api.ErrRange},
		{example(), list(0, 0, 1, 2, 0), hours, api.ErrRange},
		{example(), make([]int, 9), hours, api.ErrRange},
		{example(), nil, hours, api.ErrRange},
		{example(), owners, list(1, 1, 2), api.OK},
		{example(), owners, list(2, 1, 2), api.ErrRange},
		{example(), owners, list(-1, 1, 2), api.ErrRange},
		{example(), owners, list(0, 1, 1), api.ErrRange},
		{example(), owners, list(0, 1, 3), api.ErrRange},
		{example(), owners, list(0, math.MaxInt, 2), api.ErrRange},
		{example(), owners, list(0, math.MinInt, 2), api.ErrRange},
		{example(), owners, list(0, 1), api.ErrRange},
		{example(), owners, list(0, 1, 2, 0), api.ErrRange},
		{example(), owners, make([]int, 9), api.ErrRange},
		{example(), owners, nil, api.ErrRange},
		{example(), nil, nil, api.ErrRange},
		{sick.House{}, nil, nil, api.OK},
		{sick.House{}, list(0), nil, api.ErrRange},
		{sick.House{}, nil, list(0), api.ErrRange},
		{plain(0), list(0, 1, 2), nil, api.OK},
		{plain(0), list(0, 1, 2), list(0), api.ErrRange},
		{plain(0, touch(0, 1, 0, 0)), list(0, 1, 2), nil, api.ErrRange}, // what is missing is not the hour 0
	} {
		l, e := sick.Play(x.h, course(x.owners, x.hours))
		if e != x.want || e != api.OK && len(l) > 0 || e != api.OK && sick.ProveTruth(x.h, course(x.owners, x.hours)) {
			t.Errorf("Play, ProveTruth of %v, %v, %v: %v, %v; not %v", x.h, x.owners, x.hours, l, e, x.want)
		}
	}
}

// R1, R2: Boil and Order ask for the hour before they ask for a truth, and Order for an order at last.
func TestErrorsOfBoilAndOrder(t *testing.T) {
	for _, x := range []struct {
		h           sick.House
		hour        int
		boil, order api.Errno
	}{
		{example(), 0, api.OK, api.OK},
		{example(), 2, api.OK, api.OK},
		{example(), 3, api.ErrRange, api.ErrRange},
		{example(), -1, api.ErrRange, api.ErrRange},
		{example(), math.MaxInt, api.ErrRange, api.ErrRange},
		{example(), math.MinInt, api.ErrRange, api.ErrRange},
		{false2(), 2, api.ErrFalse, api.ErrFalse},
		{false2(), 3, api.ErrRange, api.ErrRange},
		{boiled(1, 2), 1, api.OK, api.OK},
		{boiled(1, 2), 2, api.OK, api.ErrShort},
		{boiled(1, 2), 3, api.ErrRange, api.ErrRange},
		{signed(boiled(1, 2), carries(0), free(0)), 2, api.ErrFalse, api.ErrFalse},
		{sick.House{}, 0, api.OK, api.OK},
		{sick.House{}, 1, api.ErrRange, api.ErrRange},
		{sick.House{Last: -1}, 0, api.ErrArg, api.ErrArg},
		{sick.House{Last: 6}, 7, api.ErrLimit, api.ErrLimit},
	} {
		l, e := sick.Boil(x.h, x.hour)
		m, f := sick.Order(x.h, x.hour)
		if e != x.boil || f != x.order || e != api.OK && len(l) > 0 || f != api.OK && len(m) > 0 {
			t.Errorf("Boil, Order of %v, %d: %v, %v; %v, %v; not %v, %v", x.h, x.hour, l, e, m, f, x.boil, x.order)
		}
	}
}

// R1, R2: First returns that there is no wrong sign.
func TestErrorsOfFirst(t *testing.T) {
	for _, x := range []struct {
		h sick.House
		e api.Errno
	}{{example(), api.ErrNone}, {example(free(0)), api.ErrNone}, {sick.House{}, api.ErrNone}, {false2(), api.OK}, {sick.House{Others: -1}, api.ErrArg}} {
		if n, e := sick.First(x.h); e != x.e || e != api.OK && n != 0 {
			t.Errorf("First of %v: %d, %v; not %v", x.h, n, e, x.e)
		}
	}
}

// R3: nil and a list without elements are the same.
func TestNoElements(t *testing.T) {
	empty := sick.House{Table: bundle.Table{Women: []bundle.Woman{}, Pieces: []bundle.Piece{}}, Sick: []int{}, Touches: []sick.Touch{}, Boiled: []sick.Boiling{}, Signs: []sick.Sign{}}
	for _, h := range []sick.House{{}, empty} {
		a := ask(t, h)
		order, ok := shortest(t, h, 0)
		if len(a.carry)+len(a.whose)+len(fewest(t, h, 0))+len(order)+len(leave(t, h)) > 0 || !ok {
			t.Errorf("answers of %v: %v, %v, %v", h, a, order, ok)
		}
		for _, l := range [][]int{nil, {}} {
			if len(play(t, h, course(l, l))) > 0 || !sick.ProveTruth(h, course(l, l)) || !sick.ProveBoil(h, 0, l, 0) || !sick.ProveOrder(h, 0, l, 0) {
				t.Errorf("Play, ProveTruth, ProveBoil, ProveOrder of %v, %v", h, l)
			}
		}
	}
	for _, l := range [][]int{nil, {}} {
		h := example()
		h.Sick = l
		if a := ask(t, h); !slices.Equal(a.carry, slices.Repeat(list(never), 5)) || len(a.whose) > 0 {
			t.Errorf("Carry, Whose of %v: %v", h, a)
		}
		h.Table.Pieces[0].Marks = l
		if e := sick.CheckHouse(h); e != api.ErrArg {
			t.Errorf("CheckHouse of %v: %v", h, e)
		}
		if _, e := sick.Play(example(), course(l, l)); e != api.ErrRange {
			t.Errorf("Play of %v: %v", l, e)
		}
		if sick.ProveTruth(example(), course(l, l)) || sick.ProveBoil(example(), 0, l, 9) || sick.ProveOrder(example(), 0, l, 9) {
			t.Errorf("ProveTruth, ProveBoil, ProveOrder of %v", l)
		}
	}
}

// roomy is the house with its lists at the front of longer ones, so that what is written behind them shows.
func roomy(h sick.House) (sick.House, func() sick.House) {
	h = copied(h)
	all := h
	for n, p := range h.Table.Pieces {
		all.Table.Pieces[n].Marks = append(p.Marks, 71, 72)
	}
	all.Table.Women = append(h.Table.Women, woman(7, 7, 7))
	all.Table.Pieces = append(h.Table.Pieces, piece(7, 73, 74))
	all.Sick = append(h.Sick, 75, 76)
	all.Touches = append(h.Touches, touch(77, 77, 7, 7))
	all.Boiled = append(h.Boiled, boil(78, 8))
	all.Signs = append(h.Signs, carries(79))
	front := all
	front.Table.Pieces = slices.Clone(all.Table.Pieces)[:len(h.Table.Pieces)]
	for n, p := range front.Table.Pieces {
		front.Table.Pieces[n].Marks = p.Marks[:len(p.Marks)-2]
	}
	front.Table.Women, front.Sick, front.Touches = all.Table.Women[:len(h.Table.Women)], all.Sick[:len(h.Sick)], all.Touches[:len(h.Touches)]
	front.Boiled, front.Signs = all.Boiled[:len(h.Boiled)], all.Signs[:len(h.Signs)]
	return front, func() sick.House { return copied(all) }
}

func sameHouses(a, b sick.House) bool {
	samePieces := slices.EqualFunc(a.Table.Pieces, b.Table.Pieces, func(p, q bundle.Piece) bool {
		return p.Bundle == q.Bundle && slices.Equal(p.Marks, q.Marks)
	})
	return samePieces && slices.Equal(a.Table.Women, b.Table.Women) && a.Table.Wrong == b.Table.Wrong && slices.Equal(a.Sick, b.Sick) && a.Others == b.Others &&
		a.Last == b.Last && slices.Equal(a.Touches, b.Touches) && slices.Equal(a.Boiled, b.Boiled) && slices.Equal(a.Signs, b.Signs)
}

// R4: arguments are not written to, nor what lies behind them.
func TestArgumentsAreNotWrittenTo(t *testing.T) {
	for _, one := range []sick.House{example(), false2(), boiled(1, 2), example(carries(2), free(3), carries(0)), full()} {
		h, all := roomy(one)
		before := all()
		for _, y := range calls() {
			y.of(h)
			if !sameHouses(all(), before) || !sameHouses(h, one) {
				t.Fatalf("%s writes to its argument: %v, not %v", y.name, all(), before)
			}
		}
		c := allCourses(one)[0]
		owners, hours, things := append(c.Owners, 81, 82), append(c.Hours, 83, 84), list(0, 1, 2, 3, 85)
		wantOwners, wantHours := slices.Clone(owners), slices.Clone(hours)
		c = course(owners[:len(c.Owners)], hours[:len(c.Hours)])
		sick.Play(h, c)
		sick.ProveTruth(h, c)
		sick.ProveBoil(h, 0, things[:4], 9)
		sick.ProveOrder(h, 0, things[:3], 9)
		if !slices.Equal(owners, wantOwners) || !slices.Equal(hours, wantHours) || !slices.Equal(things, list(0, 1, 2, 3, 85)) || !sameHouses(all(), before) || !sameHouses(h, one) {
			t.Errorf("Play or Prove writes to its arguments: %v, %v, %v, %v", owners, hours, things, h)
		}
	}
}

// fill writes over all of the list's memory.
func fill(l []int) {
	l = l[:cap(l)]
	for i := range l {
		l[i] = -99
	}
}

// R4: results share no memory with arguments, nor with the results of other calls.
func TestResultsHaveTheirOwnMemory(t *testing.T) {
	h, all := roomy(example())
	before, c := all(), one()
	for range 2 {
		a := ask(t, h)
		carry, things, set := play(t, h, c), fewest(t, h, 1), leave(t, false2())
		order, _ := shortest(t, h, 1)
		results := lists(a.carry, a.whose, carry, things, set, order)
		want := lists(list(perhaps, perhaps, never, always, always), list(0, 1), list(0, 1, 3, 4), list(0, 3, 4), list(0), list(0, 0))
		for n, l := range results {
			if !slices.Equal(l, want[n]) {
				t.Fatalf("the result %d: %v, not %v", n, l, want[n])
			}
		}
		for n, l := range results {
			fill(l)
			for m := n + 1; m < len(results); m++ {
				if !slices.Equal(results[m], want[m]) {
					t.Fatalf("the results %d and %d share memory", n, m)
				}
			}
		}
		if !sameHouses(all(), before) || !slices.Equal(c.Owners, one().Owners) || !slices.Equal(c.Hours, one().Hours) {
			t.Fatalf("a result is in an argument's memory: %v, %v", all(), c)
		}
	}
}

// P1: no call panics, whatever its arguments are.
func TestAnyArguments(t *testing.T) {
	numbers := list(0, 1, -1, 2, 3, 5, 6, 7, 8, 10, math.MaxInt, math.MinInt)
	d := &dice{state: 3}
	number := func() int { return numbers[d.below(len(numbers))] }
	some := func() []int {
		return list(number(), number(), number(), number(), number(), number(), number(), number())[:d.below(9)]
	}
	for range 1500 {
		h := copied(d.thrown(true))
		switch d.below(9) {
		case 0:
			h.Last = number()
		case 1:
			h.Others = number()
		case 2:
			h.Sick = some()
		case 3:
			h.Touches = append(h.Touches, touch(number(), number(), number(), number()))
		case 4:
			h.Boiled = append(h.Boiled, boil(number(), number()))
		case 5:
			h.Signs = append(h.Signs, free(number()), carries(number()))
		case 6:
			h.Table.Women = append(h.Table.Women, woman(number(), number(), number()))
		case 7:
			h.Table.Pieces = append(h.Table.Pieces, piece(number(), some()...))
		}
		for _, y := range calls() {
			y.of(h)
		}
		sick.Play(h, course(some(), some()))
		sick.Boil(h, number())
		sick.Order(h, number())
		sick.ProveTruth(h, course(some(), some()))
		sick.ProveBoil(h, number(), some(), number())
		sick.ProveOrder(h, number(), some(), number())
	}
}
