package bundle_test

import (
	"slices"
	"testing"

	"posser/api"
	"posser/bundle"
)

const (
	always  = bundle.Always
	never   = bundle.Never
	perhaps = bundle.Perhaps
)

// answers are what the calls return of a table that has a truth.
type answers struct {
	whose       [][]int
	astray      bundle.Range
	fewest      []int
	moves       []bundle.Move
	misses      []int
	piece, left int // -1, 0: there is no piece to look at
}

// ask calls all that needs a truth.
func ask(t *testing.T, of bundle.Table) answers {
	t.Helper()
	ok := func(call string, e api.Errno) {
		t.Helper()
		if e != api.OK {
			t.Fatalf("%s of %v: %v", call, of, e)
		}
	}
	var a answers
	var e api.Errno
	a.whose, e = bundle.Whose(of)
	ok("Whose", e)
	a.astray, e = bundle.Astray(of)
	ok("Astray", e)
	a.fewest, e = bundle.Fewest(of)
	ok("Fewest", e)
	a.moves, e = bundle.Moves(of)
	ok("Moves", e)
	a.misses, e = bundle.Misses(of)
	ok("Misses", e)
	a.piece, a.left, e = bundle.Look(of)
	if e == api.ErrNone && a.piece == 0 && a.left == 0 && len(of.Pieces) == 0 {
		a.piece, e = -1, api.OK
	}
	ok("Look", e)
	return a
}

func leave(t *testing.T, of bundle.Table) []int {
	t.Helper()
	l, e := bundle.Leave(of)
	if e != api.OK {
		t.Fatalf("Leave of %v: %v", of, e)
	}
	return l
}

func sameLists(a, b [][]int) bool { return slices.EqualFunc(a, b, slices.Equal) }

// Each row of the chapter's table of examples.
func TestExamples(t *testing.T) {
	if all := truths(example()); !sameLists(all, lists(list(0, 0, 1, 2), list(0, 1, 0, 2), list(1, 0, 0, 2))) {
		t.Errorf("truths: %v", all)
	}
	if own, astray, e := bundle.Play(example(), list(0, 0, 1, 2)); !slices.Equal(own, list(2, 1, 1)) || !slices.Equal(astray, list(3)) || e != api.OK {
		t.Errorf("Play: %v, %v, %v", own, astray, e)
	}
	both := list(0, 1)
	a := ask(t, example())
	if !sameLists(a.whose, lists(both, both, both, list(2))) {
		t.Errorf("Whose: %v", a)
	}
	if a.astray != to(1, 3) || !slices.Equal(a.fewest, list(0, 0, 1, 2)) || !slices.Equal(a.moves, []bundle.Move{move(3, 1, 2)}) {
		t.Errorf("Astray, Fewest, Moves: %v", a)
	}
	if !slices.Equal(a.misses, list(perhaps, perhaps, always)) || a.piece != 0 || a.left != 2 {
		t.Errorf("Misses, Look: %v", a)
	}
	alone := counted(to(1, 1), to(1, 1), 0)
	alone.Pieces[1].Marks = list(1)
	if b := ask(t, alone); !sameLists(b.whose, lists(both, both, both, list(2))) {
		t.Errorf("Whose with one mark less: %v", b)
	}
	if l, e := bundle.Whose(false2()); l != nil || e != api.ErrFalse {
		t.Errorf("Whose without a truth: %v, %v", l, e)
	}
	if l, e := bundle.Fewest(false2()); l != nil || e != api.ErrFalse {
		t.Errorf("Fewest without a truth: %v, %v", l, e)
	}
	for _, x := range []struct {
		of    bundle.Table
		first int
		leave []int
	}{{counted(to(2, 2), to(0, 0), 0), 2, list(2)}, {counted(to(4, 4), to(0, 0), 0), 0, list(0, 2)}} {
		n, e := bundle.First(x.of)
		if l := leave(t, x.of); n != x.first || e != api.OK || !slices.Equal(l, x.leave) {
			t.Errorf("First, Leave of %v: %d, %v, %v", x.of, n, e, l)
		}
	}
	if b := ask(t, counted(to(2, 2), to(0, 0), 1)); !slices.Equal(b.fewest, list(0, 0, 1, 2)) {
		t.Errorf("Fewest with a wrong count: %v", b)
	}
}

// P3.1, P3.3, P4: Play, ProveTruth and ProveFewest agree with the definitions for all owners, and all pieces are owned.
func TestPlayAndProve(t *testing.T) {
	for _, of := range append(many(300), full()) {
		if e := bundle.CheckTable(of); e != api.OK {
			t.Fatalf("CheckTable of %v: %v", of, e)
		}
		for _, owners := range allOwners(of) {
			want, away := ownAll(of, owners), astray(of, owners)
			own, found, e := bundle.Play(of, owners)
			if !slices.Equal(own, want) || !slices.Equal(found, away) || sum(own) != len(of.Pieces) || e != api.OK {
				t.Fatalf("Play of %v, %v: %v, %v, %v; not %v, %v", of, owners, own, found, e, want, away)
			}
			isTruth := len(wrong(of, owners)) <= of.Wrong
			if is := bundle.ProveTruth(of, owners); is != isTruth {
				t.Fatalf("ProveTruth of %v, %v: %v", of, owners, is)
			}
			for many := len(away) - 1; many <= len(away)+1; many++ {
				if is := bundle.ProveFewest(of, owners, many); is != (isTruth && many >= len(away)) {
					t.Fatalf("ProveFewest of %v, %v, %d: %v", of, owners, many, is)
				}
			}
		}
	}
}

// P3.1: by hand.
func TestPlayAtItsEdges(t *testing.T) {
	for _, x := range []struct {
		name        string
		of          bundle.Table
		owners      []int
		own, astray []int
	}{
		{"nothing at all", bundle.Table{}, nil, nil, nil},
		{"no pieces", alike(ranges(0, 0, 3, 3), 0), nil, list(0, 0), nil},
		{"all in their own bundles", alike(ranges(0, 0, 0, 0), 0, 0, 1, 1), list(0, 1, 1), list(1, 2), nil},
		{"all astray", alike(ranges(0, 0, 0, 0), 0, 0, 1, 1), list(1, 0, 0), list(2, 1), list(0, 1, 2)},
		{"all of one woman", alike(ranges(0, 0, 0, 0), 0, 0, 1, 0, 1, 0, 1, 0), list(1, 1, 1, 1, 1, 1, 1), list(0, 7), list(0, 2, 4, 6)},
		{"a mark that is read as that of another woman", example(), list(0, 2, 0, 2), list(2, 0, 2), list(1, 2, 3)},
		{"marks of no woman", bundle.Table{Women: []bundle.Woman{woman(5, 0, 0)}, Pieces: []bundle.Piece{piece(0, 0, 4, 5, 6, 9)}}, list(0), list(1), nil},
	} {
		own, astray, e := bundle.Play(x.of, x.owners)
		if !slices.Equal(own, x.own) || !slices.Equal(astray, x.astray) || e != api.OK {
			t.Errorf("Play with %s: %v, %v, %v", x.name, own, astray, e)
		}
	}
}

// P3.1, P3.3: what is a truth, and how many pieces are astray in it, by hand.
func TestProveAtItsEdges(t *testing.T) {
	for _, x := range []struct {
		of     bundle.Table
		owners []int
		many   int // the least number with which ProveFewest reports true; -1: it is no truth
	}{
		{example(), list(0, 0, 1, 2), 1},
		{example(), list(0, 1, 0, 2), 3},
		{example(), list(0, 0, 0, 2), -1}, // the woman 0 has one more, the woman 1 one less
		{example(), list(0, 1, 1, 2), -1}, // the woman 0 has one less
		{counted(to(2, 2), to(1, 1), 1), list(0, 1, 1, 2), 2},
		{counted(to(2, 2), to(1, 1), 1), list(0, 0, 0, 2), -1},
		{counted(to(2, 2), to(1, 1), 2), list(0, 0, 0, 2), 2},
		{counted(to(1, 2), to(1, 1), 0), list(0, 1, 1, 2), 2},
		{counted(to(2, 3), to(1, 1), 0), list(0, 1, 1, 2), -1},
		{counted(to(4, 4), to(4, 4), 2), list(0, 0, 1, 2), 1},
		{counted(to(4, 4), to(4, 4), 1), list(0, 0, 1, 2), -1},
		{counted(to(7, 7), to(0, 0), 5), list(0, 0, 1, 2), 1},
		{example(), list(2, 0, 1, 2), -1}, // not her mark
		{example(), list(0, 0, 1, 1), -1},
		{example(), list(0, 0, 1, 3), -1},
		{example(), list(-1, 0, 1, 2), -1},
		{example(), list(0, 0, 1), -1},
		{example(), list(0, 0, 1, 2, 0), -1},
		{example(), list(0, 0, 1, 2, 0, 0, 0, 0, 0), -1},
		{example(), nil, -1},
		{bundle.Table{}, nil, 0},
		{bundle.Table{}, list(0), -1},
		{bundle.Table{Wrong: 6}, nil, -1},
		{alike(ranges(0, 0, 1, 1), 0), nil, -1},
		{alike(ranges(0, 0, 1, 1), 1), nil, 0},
	} {
		if is := bundle.ProveTruth(x.of, x.owners); is != (x.many >= 0) {
			t.Errorf("ProveTruth of %v, %v: %v", x.of, x.owners, is)
		}
		for many := -1; many <= 8; many++ {
			if is := bundle.ProveFewest(x.of, x.owners, many); is != (x.many >= 0 && many >= x.many) {
				t.Errorf("ProveFewest of %v, %v, %d: %v", x.of, x.owners, many, is)
			}
		}
	}
}

// P3.2, P3.3, P3.4, P3.5: what is returned is what the definitions say over all truths.
func TestAnswersOverAllTruths(t *testing.T) {
	seen := map[int]int{}
	for _, of := range append(truthful(600), full()) {
		all, a := truths(of), ask(t, of)
		if len(a.whose) != len(of.Pieces) || len(a.misses) != len(of.Women) {
			t.Fatalf("lengths for %v: %v", of, a)
		}
		leastPiece, least := -1, 0
		for n := range of.Pieces {
			var want []int
			most := 0
			for w := range of.Women {
				if own := len(with(all, n, w)); own > 0 {
					want, most = append(want, w), max(most, own)
				}
			}
			if !slices.Equal(a.whose[n], want) {
				t.Errorf("Whose of %v: %v; the piece %d is one of %v", of, a.whose, n, want)
			}
			if leastPiece < 0 || most < least {
				leastPiece, least = n, most
			}
		}
		if a.piece != leastPiece || a.left != least {
			t.Errorf("Look of %v: %d, %d; not %d, %d", of, a.piece, a.left, leastPiece, least)
		}
		for n := range of.Women {
			want := verdict(all, func(owners []int) bool { return misses(of, owners, n) })
			if a.misses[n] != want {
				t.Errorf("Misses of %v: %v; the woman %d is %d", of, a.misses, n, want)
			}
			seen[want]++
		}
		checkAstray(t, of, all, a)
	}
	if seen[always] < 100 || seen[never] < 100 || seen[perhaps] < 100 {
		t.Errorf("the tables do not try all verdicts: %v", seen)
	}
}

// checkAstray asks for the bounds, the best truth and its moves.
func checkAstray(t *testing.T, of bundle.Table, all [][]int, a answers) {
	t.Helper()
	var many []int
	for _, owners := range all {
		many = append(many, len(astray(of, owners)))
	}
	lo, hi := slices.Min(many), slices.Max(many)
	if a.astray != to(lo, hi) {
		t.Errorf("Astray of %v: %v, not %d to %d", of, a.astray, lo, hi)
	}
	best := all[slices.Index(many, lo)]
	if !slices.Equal(a.fewest, best) {
		t.Errorf("Fewest of %v: %v, not %v", of, a.fewest, best)
	}
	var moves []bundle.Move
	for _, n := range astray(of, best) {
		moves = append(moves, move(n, of.Pieces[n].Bundle, best[n]))
	}
	if !slices.Equal(a.moves, moves) {
		t.Errorf("Moves of %v: %v, not %v", of, a.moves, moves)
	}
}

// P3.2: by hand. Example 3 of the document is the mark that only one woman has.
func TestWhoseAtItsEdges(t *testing.T) {
	both := list(0, 1)
	one := counted(to(7, 7), to(0, 0), 5)
	one.Pieces = []bundle.Piece{piece(0, 2), piece(1, 2, 9), piece(2, 2)}
	for _, x := range []struct {
		of   bundle.Table
		want [][]int
	}{
		{bundle.Table{}, nil},
		{alike(ranges(0, 0), 0), nil},
		{one, lists(list(2), list(2), list(2))},
		{alike(ranges(1, 1, 1, 1), 0, 0, 0), lists(both, both)},
		{alike(ranges(2, 2, 0, 0), 0, 1, 1), lists(list(0), list(0))},
		{alike(ranges(2, 2, 0, 1), 1, 1, 1), lists(both, both)},
		{alike(ranges(0, 1, 0, 0, 1, 2), 0, 1, 1), lists(list(0, 2), list(0, 2))},
		{alike(ranges(3, 3, 0, 0), 1, 1, 1), lists(list(0), list(0))}, // the woman 0 miscounted, so that the woman 1 did not
		{alike(ranges(3, 3, 3, 3), 2, 1, 1), lists(both, both)},
		{counted(to(1, 1), to(2, 2), 0), lists(both, list(2), both, list(2))},
		{counted(to(1, 1), to(1, 2), 0), lists(both, list(0, 1, 2), both, list(2))},
	} {
		if a := ask(t, x.of); !sameLists(a.whose, x.want) {
			t.Errorf("Whose of %v: %v", x.of, a.whose)
		}
	}
}

// P3.3, P3.4: by hand.
func TestAstrayAtItsEdges(t *testing.T) {
	for _, x := range []struct {
		of     bundle.Table
		astray bundle.Range
		fewest []int
		moves  []bundle.Move
		misses []int
	}{
		{bundle.Table{}, to(0, 0), nil, nil, nil},
		{alike(ranges(0, 0, 0, 7), 0), to(0, 0), nil, nil, list(never, never)},
		{alike(ranges(1, 1, 1, 1), 0, 0, 1), to(0, 2), list(0, 1), nil, list(perhaps, perhaps)},
		{alike(ranges(1, 1, 1, 1), 0, 1, 0), to(0, 2), list(1, 0), nil, list(perhaps, perhaps)},
		{alike(ranges(1, 1, 1, 1), 0, 0, 0), to(1, 1), list(0, 1), []bundle.Move{move(1, 0, 1)}, list(never, always)},
		{alike(ranges(1, 1, 1, 1), 0, 1, 1), to(1, 1), list(0, 1), []bundle.Move{move(0, 1, 0)}, list(always, never)},
		{alike(ranges(2, 2, 0, 0), 0, 1, 1), to(2, 2), list(0, 0), []bundle.Move{move(0, 1, 0), move(1, 1, 0)}, list(always, never)},
		{alike(ranges(0, 2, 0, 2), 0, 0, 0), to(0, 2), list(0, 0), nil, list(never, perhaps)},
		{alike(ranges(1, 1, 1, 1, 1, 1), 0, 0, 0, 0), to(2, 2), list(0, 1, 2), []bundle.Move{move(1, 0, 1), move(2, 0, 2)}, list(never, always, always)},
		{alike(ranges(0, 0, 0, 0, 3, 3), 1, 0, 1, 2), to(2, 2), list(2, 2, 2), []bundle.Move{move(0, 0, 2), move(1, 1, 2)}, list(never, never, always)},
		{alike(ranges(0, 0, 0, 0, 3, 3), 2, 0, 1, 2), to(1, 3), list(0, 0, 2), []bundle.Move{move(1, 1, 0)}, list(perhaps, perhaps, perhaps)},
		{counted(to(2, 2), to(0, 0), 1), to(1, 3), list(0, 0, 1, 2), []bundle.Move{move(3, 1, 2)}, list(perhaps, perhaps, always)},
		{counted(to(1, 1), to(1, 1), 0), to(2, 4), list(0, 1, 1, 2), []bundle.Move{move(1, 0, 1), move(3, 1, 2)}, list(perhaps, always, always)},
	} {
		a := ask(t, x.of)
		if a.astray != x.astray || !slices.Equal(a.fewest, x.fewest) || !slices.Equal(a.moves, x.moves) || !slices.Equal(a.misses, x.misses) {
			t.Errorf("Astray, Fewest, Moves, Misses of %v: %v", x.of, a)
		}
	}
}

// P3.5: of several pieces the first one is returned, also if its owner is known.
func TestLookAtItsEdges(t *testing.T) {
	mixed := alike(ranges(0, 2, 0, 2, 0, 2), 0, 0, 0)
	mixed.Women[2].Mark, mixed.Pieces[1].Marks = 2, list(0, 2)
	for _, x := range []struct {
		of          bundle.Table
		piece, left int
	}{
		{example(), 0, 2},
		{mixed, 1, 2},
		{alike(ranges(2, 2, 0, 0), 0, 1, 1), 0, 1},
		{alike(ranges(1, 1, 1, 1), 0, 1, 1), 0, 1},
		{alike(ranges(1, 1, 1, 1, 1, 1), 0, 0, 0, 0), 0, 2},
		{alike(ranges(0, 1, 0, 1, 1, 3), 0, 0, 0, 0), 0, 7},
		{counted(to(1, 1), to(2, 2), 0), 0, 1},
		{counted(to(1, 1), to(1, 2), 0), 1, 2},
		{bundle.Table{}, -1, 0},
		{alike(ranges(0, 0), 0), -1, 0},
	} {
		if a := ask(t, x.of); a.piece != x.piece || a.left != x.left {
			t.Errorf("Look of %v: %d, %d", x.of, a.piece, a.left)
		}
	}
}

// P3.6: First and Leave are what the definitions say.
func TestFirstAndLeave(t *testing.T) {
	for _, of := range append(many(600), full()) {
		n := -1
		for i := range of.Women {
			if !canLeave(of, from(of, i+1)) {
				n = i
				break
			}
		}
		got, e := bundle.First(of)
		if n < 0 && (got != 0 || e != api.ErrNone) || n >= 0 && (got != n || e != api.OK) {
			t.Errorf("First of %v: %d, %v; not %d", of, got, e, n)
		}
		all := sets(of)
		want := all[slices.IndexFunc(all, func(l []int) bool { return canLeave(of, l) })]
		if l := leave(t, of); !slices.Equal(l, want) {
			t.Errorf("Leave of %v: %v, not %v", of, l, want)
		}
	}
}

// P3.6: by hand. What Wrong is does not matter.
func TestFirstAndLeaveAtTheirEdges(t *testing.T) {
	for _, x := range []struct {
		of    bundle.Table
		first int
		e     api.Errno
		leave []int
	}{
		{example(), 0, api.ErrNone, nil},
		{bundle.Table{}, 0, api.ErrNone, nil},
		{alike(ranges(0, 0, 0, 7), 0), 0, api.ErrNone, nil},
		{alike(ranges(0, 0, 1, 1), 0), 1, api.OK, list(1)},
		{alike(ranges(1, 1, 2, 7), 0), 0, api.OK, list(0, 1)},
		{counted(to(4, 4), to(1, 1), 0), 0, api.OK, list(0)},
		{counted(to(3, 3), to(1, 1), 0), 1, api.OK, list(0)}, // the women 0 and 1 together counted one too many
		{alike(ranges(2, 2, 1, 1), 0, 0, 1), 1, api.OK, list(0)},
		{alike(ranges(2, 2, 3, 3), 0, 0, 1), 1, api.OK, list(1)},
		{alike(ranges(3, 3, 0, 0), 0, 0, 1), 0, api.OK, list(0)},
		{alike(ranges(3, 3, 4, 4), 0, 0, 1), 0, api.OK, list(0, 1)},
		{alike(ranges(1, 1, 1, 1, 1, 1), 0, 0, 1), 2, api.OK, list(0)},
		{alike(ranges(1, 1, 1, 1, 1, 1), 0, 0, 1, 2, 0), 2, api.OK, list(0)},
		{alike(ranges(2, 2, 2, 2, 1, 1, 1, 1), 0, 0, 1), 1, api.OK, list(0, 1)},
		{alike(ranges(4, 4, 1, 1, 0, 0, 5, 5), 0, 0, 1), 0, api.OK, list(0, 3)},
		{alike(ranges(0, 0, 0, 0, 0, 0, 0, 0, 0, 0), 0, 0, 1), 4, api.OK, list(0)},
		{alike(ranges(7, 7, 7, 7, 7, 7, 7, 7, 7, 7), 0), 0, api.OK, list(0, 1, 2, 3, 4)},
	} {
		for wrong := range 6 {
			x.of.Wrong = wrong
			if n, e := bundle.First(x.of); n != x.first || e != x.e {
				t.Errorf("First of %v: %d, %v", x.of, n, e)
			}
			if l := leave(t, x.of); !slices.Equal(l, x.leave) {
				t.Errorf("Leave of %v: %v", x.of, l)
			}
		}
	}
}
