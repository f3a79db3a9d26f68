package bundle_test

import (
	"math"
	"slices"
	"testing"

	"posser/api"
	"posser/bundle"
)

// call is a call of the package with its results in one form; the list of Play is right for the table.
type call struct {
	name   string
	of     func(t bundle.Table) (zero bool, e api.Errno) // zero: each result but the error is the zero value
	truths bool                                          // whether it asks for a truth
}

func calls() []call {
	return []call{
		{"CheckTable", func(t bundle.Table) (bool, api.Errno) { return true, bundle.CheckTable(t) }, false},
		{"Play", func(t bundle.Table) (bool, api.Errno) {
			own, astray, e := bundle.Play(t, firstOwners(t))
			return len(own) == 0 && len(astray) == 0, e
		}, false},
		{"Whose", func(t bundle.Table) (bool, api.Errno) { l, e := bundle.Whose(t); return len(l) == 0, e }, true},
		{"Astray", func(t bundle.Table) (bool, api.Errno) { r, e := bundle.Astray(t); return r == bundle.Range{}, e }, true},
		{"Fewest", func(t bundle.Table) (bool, api.Errno) { l, e := bundle.Fewest(t); return len(l) == 0, e }, true},
		{"Moves", func(t bundle.Table) (bool, api.Errno) { l, e := bundle.Moves(t); return len(l) == 0, e }, true},
		{"Misses", func(t bundle.Table) (bool, api.Errno) { l, e := bundle.Misses(t); return len(l) == 0, e }, true},
		{"Look", func(t bundle.Table) (bool, api.Errno) {
			piece, left, e := bundle.Look(t)
			return piece == 0 && left == 0, e
		}, true},
		{"First", func(t bundle.Table) (bool, api.Errno) { n, e := bundle.First(t); return n == 0, e }, false},
		{"Leave", func(t bundle.Table) (bool, api.Errno) { l, e := bundle.Leave(t); return len(l) == 0, e }, false},
	}
}

// firstOwners has for each piece the first one of its women, if there is one.
func firstOwners(t bundle.Table) []int {
	var out []int
	for _, p := range t.Pieces {
		out = append(out, append(womenOf(t, p), 0)[0])
	}
	return out
}

// change is one of the table of the examples, and the error that it then has.
type change struct {
	name string
	to   func(t *bundle.Table)
	want api.Errno
}

// changes are at both sides of each limit.
func changes() []change {
	return slices.Concat(changesOfWomen(), changesOfPieces(), changesOfSizes(), changesOfTwoThings())
}

func changesOfWomen() []change {
	came := func(woman, lo, hi int) func(t *bundle.Table) {
		return func(t *bundle.Table) { t.Women[woman].Came = to(lo, hi) }
	}
	marked := func(mark int) func(t *bundle.Table) { return func(t *bundle.Table) { t.Women[0].Mark = mark } }
	wrong := func(n int) func(t *bundle.Table) { return func(t *bundle.Table) { t.Wrong = n } }
	return []change{
		{"nothing", func(t *bundle.Table) {}, api.OK},
		{"nothing at all", func(t *bundle.Table) { *t = bundle.Table{} }, api.OK},
		{"as much as is allowed", func(t *bundle.Table) { *t = full() }, api.OK},
		{"Wrong 5", wrong(5), api.OK},
		{"Wrong 6", wrong(6), api.ErrArg},
		{"Wrong -1", wrong(-1), api.ErrArg},
		{"the greatest Wrong", wrong(math.MaxInt), api.ErrArg},
		{"the least Wrong", wrong(math.MinInt), api.ErrArg},
		{"Wrong 5 of no women", func(t *bundle.Table) { *t = bundle.Table{Wrong: 5} }, api.OK},
		{"the mark 0", marked(0), api.OK},
		{"the mark 9", marked(9), api.OK},
		{"the mark 10", marked(10), api.ErrArg},
		{"the mark -1", marked(-1), api.ErrArg},
		{"the greatest mark", marked(math.MaxInt), api.ErrArg},
		{"the least mark", marked(math.MinInt), api.ErrArg},
		{"Came 0", came(0, 0, 0), api.OK},
		{"Came 7", came(0, 7, 7), api.OK},
		{"Came to 8", came(0, 7, 8), api.ErrArg},
		{"Came 8", came(2, 8, 8), api.ErrArg},
		{"Came from -1", came(0, -1, 0), api.ErrArg},
		{"Came of no numbers", came(2, 2, 1), api.ErrArg},
		{"Came of all numbers", came(1, math.MinInt, math.MaxInt), api.ErrArg},
		{"Came of none of all numbers", came(1, math.MaxInt, math.MinInt), api.ErrArg},
		{"5 women", func(t *bundle.Table) { t.Women = append(t.Women, woman(3, 0, 0), woman(4, 0, 0)) }, api.OK},
		{"6 women", func(t *bundle.Table) { t.Women = append(t.Women, woman(3, 0, 0), woman(4, 0, 0), woman(5, 0, 0)) }, api.ErrLimit},
		{"no woman", func(t *bundle.Table) { t.Women = nil }, api.ErrArg},
		{"no woman with the mark 2", func(t *bundle.Table) { t.Women = t.Women[:2] }, api.ErrArg},
	}
}

func changesOfPieces() []change {
	read := func(marks ...int) func(t *bundle.Table) {
		return func(t *bundle.Table) { t.Pieces[2].Marks = marks }
	}
	lies := func(in int) func(t *bundle.Table) { return func(t *bundle.Table) { t.Pieces[3].Bundle = in } }
	return []change{
		{"no pieces", func(t *bundle.Table) { t.Pieces = nil }, api.OK},
		{"7 pieces", func(t *bundle.Table) { t.Pieces = slices.Repeat([]bundle.Piece{piece(2, 2)}, 7) }, api.OK},
		{"8 pieces", func(t *bundle.Table) { t.Pieces = slices.Repeat([]bundle.Piece{piece(2, 2)}, 8) }, api.ErrLimit},
		{"no marks", read(), api.ErrArg},
		{"all marks", read(0, 1, 2, 3, 4, 5, 6, 7, 8, 9), api.OK},
		{"marks that are no woman's", read(0, 3, 9), api.ErrArg},
		{"marks of which one is a woman's", read(0, 2, 9), api.OK},
		{"the same mark twice", read(1, 1), api.ErrArg},
		{"the same mark twice at last", read(0, 1, 2, 2), api.ErrArg},
		{"marks that fall", read(2, 1), api.ErrArg},
		{"marks that fall at last", read(1, 3, 2), api.ErrArg},
		{"a mark 10", read(1, 10), api.ErrArg},
		{"a mark -1", read(-1, 1), api.ErrArg},
		{"the greatest of marks", read(1, math.MaxInt), api.ErrArg},
		{"the least of marks", read(math.MinInt, 1), api.ErrArg},
		{"many marks", read(slices.Repeat(list(1), 1000)...), api.ErrArg},
		{"the bundle 0", lies(0), api.OK},
		{"the bundle 2", lies(2), api.OK},
		{"the bundle 3", lies(3), api.ErrArg},
		{"the bundle -1", lies(-1), api.ErrArg},
		{"the greatest bundle", lies(math.MaxInt), api.ErrArg},
		{"the least bundle", lies(math.MinInt), api.ErrArg},
		{"a piece, but no woman", func(t *bundle.Table) { t.Women, t.Pieces = nil, []bundle.Piece{piece(0, 1)} }, api.ErrArg},
	}
}

// sized has so many women with the mark 1 and with the mark 2, and pieces of the first ones, the others and both.
func sized(women, others, first, second, both int) func(t *bundle.Table) {
	return func(t *bundle.Table) {
		t.Women = append(slices.Repeat([]bundle.Woman{woman(1, 0, 7)}, women), slices.Repeat([]bundle.Woman{woman(2, 0, 7)}, others)...)
		t.Pieces = slices.Concat(slices.Repeat([]bundle.Piece{piece(0, 1)}, first), slices.Repeat([]bundle.Piece{piece(0, 2)}, second), slices.Repeat([]bundle.Piece{piece(0, 1, 2)}, both))
	}
}

func changesOfSizes() []change {
	return []change{
		{"2000 owners", sized(2, 3, 4, 0, 3), api.OK},
		{"2000 owners of pieces in another order", func(t *bundle.Table) {
			sized(2, 3, 4, 0, 3)(t)
			slices.Reverse(t.Pieces)
		}, api.OK},
		{"2025 owners", sized(2, 3, 0, 4, 2), api.ErrLimit},
		{"2187 owners", sized(3, 0, 7, 0, 0), api.ErrLimit},
		{"1875 owners", sized(2, 3, 0, 1, 4), api.OK},
		{"3125 owners", sized(5, 0, 5, 0, 0), api.ErrLimit},
		{"as many owners as there can be", sized(5, 0, 7, 0, 0), api.ErrLimit},
		{"2025 owners, of which few are a truth", func(t *bundle.Table) {
			sized(2, 3, 0, 4, 2)(t)
			t.Women[0].Came = to(6, 6)
		}, api.ErrLimit},
	}
}

// changesOfTwoThings try the order of the row.
func changesOfTwoThings() []change {
	large := sized(5, 0, 7, 0, 0)
	also := func(one, other func(t *bundle.Table)) func(t *bundle.Table) {
		return func(t *bundle.Table) { one(t); other(t) }
	}
	return []change{
		{"6 women, Wrong -1", func(t *bundle.Table) { t.Women, t.Wrong = make([]bundle.Woman, 6), -1 }, api.ErrLimit},
		{"6 women who are not valid", func(t *bundle.Table) { t.Women = slices.Repeat([]bundle.Woman{woman(-1, 1, 0)}, 6) }, api.ErrLimit},
		{"8 pieces that are not valid", func(t *bundle.Table) { t.Pieces = make([]bundle.Piece, 8) }, api.ErrLimit},
		{"8 pieces, no women", func(t *bundle.Table) { t.Women, t.Pieces = nil, make([]bundle.Piece, 8) }, api.ErrLimit},
		{"many owners, Wrong 6", also(large, func(t *bundle.Table) { t.Wrong = 6 }), api.ErrArg},
		{"many owners, a mark 10", also(large, func(t *bundle.Table) { t.Pieces[6].Marks = list(1, 10) }), api.ErrArg},
		{"many owners, a piece of nobody", also(large, func(t *bundle.Table) { t.Pieces[6].Marks = list(3) }), api.ErrArg},
		{"many owners, no bundle", also(large, func(t *bundle.Table) { t.Pieces[6].Bundle = 5 }), api.ErrArg},
		{"many owners, Came of no numbers", also(large, func(t *bundle.Table) { t.Women[4].Came = to(1, 0) }), api.ErrArg},
	}
}

// P3.1, R1, R2, P1: each call returns the error of the table, and with it nothing else.
func TestErrorsOfTheTable(t *testing.T) {
	for _, x := range changes() {
		of := example()
		x.to(&of)
		if e := bundle.CheckTable(of); e != x.want {
			t.Errorf("CheckTable with %s: %v, not %v", x.name, e, x.want)
		}
		if x.want == api.OK {
			continue
		}
		for _, y := range calls() {
			if zero, e := y.of(of); e != x.want || !zero {
				t.Errorf("%s with %s: %v, not %v", y.name, x.name, e, x.want)
			}
		}
		for _, owners := range lists(firstOwners(of), nil, list(-1), list(0, 0, 1, 2)) {
			if own, astray, e := bundle.Play(of, owners); e != x.want || len(own)+len(astray) > 0 {
				t.Errorf("Play of %v with %s: %v, not %v", owners, x.name, e, x.want)
			}
			if bundle.ProveTruth(of, owners) || bundle.ProveFewest(of, owners, 7) {
				t.Errorf("ProveTruth, ProveFewest of %v with %s", owners, x.name)
			}
		}
	}
}

// R1, R2: the calls that ask for a truth return ErrFalse, and nothing else, if there is none; the others do not.
func TestErrorsWithoutATruth(t *testing.T) {
	for _, of := range []bundle.Table{false2(), counted(to(2, 2), to(0, 0), 0), counted(to(4, 4), to(0, 0), 1), alike(ranges(1, 1), 0), alike(ranges(0, 0, 0, 0), 0, 1)} {
		for _, y := range calls() {
			zero, e := y.of(of)
			if (e == api.ErrFalse) != y.truths || !y.truths && e != api.OK || y.truths && !zero {
				t.Errorf("%s of %v: %v", y.name, of, e)
			}
		}
		for _, owners := range append(allOwners(of), firstOwners(of)) {
			if bundle.ProveTruth(of, owners) || bundle.ProveFewest(of, owners, 7) {
				t.Errorf("ProveTruth, ProveFewest of %v, %v", of, owners)
			}
		}
	}
}

// R1, R2: Play asks for owners, but not about counts.
func TestErrorsOfPlay(t *testing.T) {
	for _, x := range []struct {
		of     bundle.Table
		owners []int
		want   api.Errno
	}{
		{example(), list(0, 0, 1, 2), api.OK},
		{example(), list(1, 2, 1, 2), api.OK},
		{false2(), list(0, 0, 0, 2), api.OK},
		{example(), list(2, 0, 1, 2), api.ErrRange},
		{example(), list(0, 0, 2, 2), api.ErrRange},
		{example(), list(0, 0, 1, 0), api.ErrRange},
		{example(), list(0, 0, 1, 3), api.ErrRange},
		{example(), list(-1, 0, 1, 2), api.ErrRange},
		{example(), list(0, 0, 1, -1), api.ErrRange},
		{example(), list(0, math.MaxInt, 1, 2), api.ErrRange},
		{example(), list(0, math.MinInt, 1, 2), api.ErrRange},
		{example(), list(0, 0, 1), api.ErrRange},
		{example(), list(0, 0, 1, 2, 2), api.ErrRange},
		{example(), list(0, 0, 1, 2, 0, 0, 0), api.ErrRange},
		{example(), list(0, 0, 1, 2, 0, 0, 0, 0, 0, 0), api.ErrRange},
		{example(), nil, api.ErrRange},
		{false2(), list(0, 0, 1, 1), api.ErrRange},
		{full(), list(4, 4, 4, 0, 2, 0, 2), api.OK},
		{full(), list(4, 4, 4, 0, 2, 0, 0), api.OK},
		{full(), list(4, 4, 4, 0, 2, 0), api.ErrRange}, // what is missing is not the woman 0
		{full(), list(4, 4, 4, 0, 2, 0, 1), api.ErrRange},
		{full(), list(4, 4, 4, 0, 2, 0, 2, 0), api.ErrRange},
		{bundle.Table{}, nil, api.OK},
		{bundle.Table{}, list(0), api.ErrRange},
		{alike(ranges(1, 1), 0), nil, api.OK},
		{alike(ranges(1, 1), 0), list(0), api.ErrRange},
		{alike(ranges(1, 1), 0, 0), nil, api.ErrRange},
		{alike(ranges(1, 1), 0, 0), list(0), api.OK},
		{alike(ranges(1, 1), 0, 0), list(0, 0), api.ErrRange},
	} {
		own, astray, e := bundle.Play(x.of, x.owners)
		if e != x.want || e != api.OK && len(own)+len(astray) > 0 || e == api.OK && len(own) != len(x.of.Women) {
			t.Errorf("Play of %v, %v: %v, %v, %v; not %v", x.of, x.owners, own, astray, e, x.want)
		}
		if e != api.OK && (bundle.ProveTruth(x.of, x.owners) || bundle.ProveFewest(x.of, x.owners, 7)) {
			t.Errorf("ProveTruth, ProveFewest of %v, %v", x.of, x.owners)
		}
	}
}

// R1, R2: what there is not. Look asks for a truth before it asks for pieces.
func TestErrorsOfLookAndFirst(t *testing.T) {
	for _, x := range []struct {
		of          bundle.Table
		look, first api.Errno
	}{
		{example(), api.OK, api.ErrNone},
		{false2(), api.ErrFalse, api.OK},
		{counted(to(2, 2), to(2, 2), 1), api.OK, api.OK},
		{bundle.Table{}, api.ErrNone, api.ErrNone},
		{alike(ranges(0, 0), 0), api.ErrNone, api.ErrNone},
		{alike(ranges(1, 1), 1), api.ErrNone, api.OK},
		{alike(ranges(1, 1), 0), api.ErrFalse, api.OK},
		{bundle.Table{Wrong: -1}, api.ErrArg, api.ErrArg},
	} {
		if n, left, e := bundle.Look(x.of); e != x.look || e != api.OK && (n != 0 || left != 0) {
			t.Errorf("Look of %v: %d, %d, %v; not %v", x.of, n, left, e, x.look)
		}
		if n, e := bundle.First(x.of); e != x.first || e != api.OK && n != 0 {
			t.Errorf("First of %v: %d, %v; not %v", x.of, n, e, x.first)
		}
	}
}

// R3: nil and a list without elements are the same.
func TestNoElements(t *testing.T) {
	none := alike(ranges(0, 0, 0, 1), 0)
	none.Pieces = []bundle.Piece{}
	for _, of := range []bundle.Table{{}, {Women: []bundle.Woman{}, Pieces: []bundle.Piece{}}, alike(ranges(0, 0, 0, 1), 0), none} {
		a := ask(t, of)
		if len(a.whose)+len(a.fewest)+len(a.moves) > 0 || a.astray != to(0, 0) || len(a.misses) != len(of.Women) || a.piece != -1 || len(leave(t, of)) > 0 {
			t.Errorf("answers of %v: %v", of, a)
		}
		for _, owners := range [][]int{nil, {}} {
			own, astray, e := bundle.Play(of, owners)
			if len(own) != len(of.Women) || len(astray) > 0 || e != api.OK || !bundle.ProveTruth(of, owners) || !bundle.ProveFewest(of, owners, 0) {
				t.Errorf("Play, ProveTruth, ProveFewest of %v: %v, %v, %v", of, own, astray, e)
			}
		}
	}
	for _, l := range [][]int{nil, {}} {
		of := example()
		of.Pieces[0].Marks = l
		if e := bundle.CheckTable(of); e != api.ErrArg {
			t.Errorf("CheckTable of %v: %v", of, e)
		}
		if _, _, e := bundle.Play(example(), l); e != api.ErrRange {
			t.Errorf("Play of %v: %v", l, e)
		}
		if bundle.ProveTruth(example(), l) || bundle.ProveFewest(example(), l, 7) {
			t.Errorf("ProveTruth, ProveFewest of %v", l)
		}
	}
}

// roomy is the table with its lists at the front of longer ones, so that what is written behind them shows.
func roomy(t bundle.Table) (bundle.Table, func() bundle.Table) {
	t = copied(t)
	for n, p := range t.Pieces {
		t.Pieces[n].Marks = append(p.Marks, 71, 72)
	}
	t.Women = append(t.Women, woman(7, 7, 7), woman(8, 8, 8))
	t.Pieces = append(t.Pieces, piece(7, 73, 74), piece(8, 75, 76))
	all := t
	all.Pieces = slices.Clone(t.Pieces)
	for n, p := range t.Pieces {
		t.Pieces[n].Marks = p.Marks[:len(p.Marks)-2]
	}
	pieces := t.Pieces
	t.Women, t.Pieces = t.Women[:len(t.Women)-2], t.Pieces[:len(t.Pieces)-2]
	return t, func() bundle.Table {
		now := copied(all) // its Marks have what is behind those of the table
		for n := range now.Pieces {
			now.Pieces[n].Bundle = pieces[n].Bundle
		}
		return now
	}
}

func sameTables(a, b bundle.Table) bool {
	samePieces := slices.EqualFunc(a.Pieces, b.Pieces, func(p, q bundle.Piece) bool {
		return p.Bundle == q.Bundle && slices.Equal(p.Marks, q.Marks)
	})
	return a.Wrong == b.Wrong && slices.Equal(a.Women, b.Women) && samePieces
}

// R4: arguments are not written to, nor what lies behind them.
func TestArgumentsAreNotWrittenTo(t *testing.T) {
	for _, one := range []bundle.Table{example(), false2(), counted(to(4, 4), to(0, 0), 2), alike(ranges(0, 1), 0), full()} {
		of, all := roomy(one)
		before := all()
		for _, y := range calls() {
			y.of(of)
			if !sameTables(all(), before) || !sameTables(of, one) {
				t.Fatalf("%s writes to its argument: %v, not %v", y.name, all(), before)
			}
		}
		owners := append(firstOwners(of), 77, 78)
		want := slices.Clone(owners)
		bundle.Play(of, owners[:len(of.Pieces)])
		bundle.ProveTruth(of, owners[:len(of.Pieces)])
		bundle.ProveFewest(of, owners[:len(of.Pieces)], 7)
		if !slices.Equal(owners, want) || !sameTables(all(), before) {
			t.Errorf("Play, ProveTruth or ProveFewest writes to its arguments: %v, %v", of, owners)
		}
	}
}

// fill writes over all of the list's memory.
func fill[T any](l []T, with T) {
	l = l[:cap(l)]
	for i := range l {
		l[i] = with
	}
}

// R4: results share no memory with arguments, nor with each other, nor with the results of other calls.
func TestResultsHaveTheirOwnMemory(t *testing.T) {
	of, all := roomy(example())
	before, owners := all(), list(0, 1, 0, 2)
	want := ask(t, example())
	for range 2 {
		a := ask(t, of)
		own, astray, _ := bundle.Play(of, owners)
		set := leave(t, counted(to(4, 4), to(0, 0), 0))
		if !slices.Equal(own, list(2, 1, 1)) || !slices.Equal(astray, list(1, 2, 3)) || !sameLists(a.whose, want.whose) || !slices.Equal(a.fewest, want.fewest) || !slices.Equal(a.moves, want.moves) || !slices.Equal(a.misses, want.misses) || !slices.Equal(set, list(0, 2)) {
			t.Fatalf("answers: %v, %v, %v, %v", a, own, astray, set)
		}
		fill(own, -99)
		if !slices.Equal(astray, list(1, 2, 3)) {
			t.Errorf("the results of Play share memory: %v", astray)
		}
		for n := range a.whose {
			fill(a.whose[n], -99)
			if !sameLists(a.whose[n+1:], want.whose[n+1:]) {
				t.Errorf("the lists of Whose share memory: %v", a.whose)
			}
		}
		fill(a.whose, list(-99))
		fill(astray, -99)
		fill(a.fewest, -99)
		fill(a.moves, move(-99, -99, -99))
		fill(a.misses, -99)
		fill(set, -99)
		if !sameTables(all(), before) || !slices.Equal(owners, list(0, 1, 0, 2)) {
			t.Fatalf("a result is in an argument's memory: %v, %v", all(), owners)
		}
	}
}

// P1: no call panics, whatever its arguments are.
func TestAnyArguments(t *testing.T) {
	numbers := list(0, 1, -1, 2, 3, 5, 6, 7, 8, 10, math.MaxInt, math.MinInt)
	d := &dice{state: 3}
	number := func() int { return numbers[d.below(len(numbers))] }
	some := func() []int {
		return list(number(), number(), number(), number(), number(), number(), number(), number())[:d.below(9)]
	}
	for range 2000 {
		of := d.thrown(true)
		if d.below(8) == 0 {
			of.Wrong = number()
		}
		if d.below(3) == 0 {
			of.Women = append(of.Women, woman(number(), number(), number()))
		}
		if d.below(3) == 0 {
			of.Pieces = append(of.Pieces, piece(number(), some()...))
		}
		for _, y := range calls() {
			y.of(of)
		}
		bundle.Play(of, some())
		bundle.ProveTruth(of, some())
		bundle.ProveFewest(of, some(), number())
	}
}
