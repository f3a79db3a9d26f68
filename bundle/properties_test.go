package bundle_test

import (
	"slices"
	"testing"

	"posser/api"
	"posser/bundle"
)

// hasTruth asks a call that needs one.
func hasTruth(t *testing.T, of bundle.Table) bool {
	t.Helper()
	_, e := bundle.Astray(of)
	if e != api.OK && e != api.ErrFalse {
		t.Fatalf("Astray of %v: %v", of, e)
	}
	return e == api.OK
}

// subset reports whether each list has no number that the other list of the same number has not.
func subset(inner, outer [][]int) bool {
	for n, l := range inner {
		if slices.ContainsFunc(l, func(x int) bool { return !slices.Contains(outer[n], x) }) {
			return false
		}
	}
	return len(inner) == len(outer)
}

// proved returns the owners that are a truth by ProveTruth.
func proved(of bundle.Table) [][]int {
	return slices.DeleteFunc(allOwners(of), func(owners []int) bool { return !bundle.ProveTruth(of, owners) })
}

// P3.7: in each truth each piece is one of its owner's, so many are astray, and what a woman misses always, or never, is so; all that is returned is reached.
func TestInEachTruth(t *testing.T) {
	for _, of := range append(truthful(400), full()) {
		a := ask(t, of)
		reached := map[[2]int]bool{}
		lo, hi := false, false
		for _, owners := range truths(of) {
			if !bundle.ProveTruth(of, owners) {
				t.Errorf("ProveTruth of %v, %v", of, owners)
			}
			for n, owner := range owners {
				if !slices.Contains(a.whose[n], owner) {
					t.Errorf("Whose of %v: %v, though there is %v", of, a.whose, owners)
				}
				reached[[2]int{n, owner}] = true
			}
			many := len(astray(of, owners))
			if many < a.astray.Lo || many > a.astray.Hi {
				t.Errorf("Astray of %v: %v, though there is %v", of, a.astray, owners)
			}
			lo, hi = lo || many == a.astray.Lo, hi || many == a.astray.Hi
			for n, v := range a.misses {
				if is := misses(of, owners, n); v == always && !is || v == never && is {
					t.Errorf("Misses of %v: %v, though not in %v", of, a.misses, owners)
				}
			}
		}
		if !lo || !hi {
			t.Errorf("Astray of %v: %v, of which an end is not reached", of, a.astray)
		}
		for n, l := range a.whose {
			for _, w := range l {
				if !reached[[2]int{n, w}] {
					t.Errorf("Whose of %v: %v, though the piece %d is never of %d", of, a.whose, n, w)
				}
			}
		}
	}
}

// P3.7: there is a truth if the smallest set has at most Wrong women, and only then.
func TestTruthsAndTheSmallestSet(t *testing.T) {
	with, without := 0, 0
	for _, of := range many(300) {
		for wrong := range 6 {
			of.Wrong = wrong
			is := hasTruth(t, of)
			if l := leave(t, of); is != (len(l) <= wrong) {
				t.Errorf("Leave of %v: %v, though a truth: %v", of, l, is)
			}
			if is {
				with++
			} else {
				without++
			}
		}
	}
	if with < 100 || without < 100 {
		t.Errorf("the tables do not try enough: %d, %d", with, without)
	}
}

// P3.8: no truth is better than the best one, and its moves lay each piece where it belongs.
func TestNoFewer(t *testing.T) {
	moved := 0
	for _, of := range append(truthful(400), full()) {
		a := ask(t, of)
		fewest := len(astray(of, a.fewest))
		if !bundle.ProveFewest(of, a.fewest, fewest) || fewest != a.astray.Lo || len(a.moves) != fewest {
			t.Errorf("Fewest, Astray, Moves of %v: %v", of, a)
		}
		for _, owners := range truths(of) {
			if bundle.ProveFewest(of, owners, fewest-1) || bundle.ProveFewest(of, owners, fewest) && slices.Compare(owners, a.fewest) < 0 {
				t.Errorf("Fewest of %v: %v, though there is %v", of, a.fewest, owners)
			}
		}
		after := copied(of)
		last := -1
		for _, m := range a.moves {
			if m.Piece <= last || after.Pieces[m.Piece].Bundle != m.From || a.fewest[m.Piece] != m.To {
				t.Errorf("Moves of %v: %v", of, a.moves)
			}
			last = m.Piece
			after.Pieces[m.Piece].Bundle = m.To
			moved++
		}
		if _, left, e := bundle.Play(after, a.fewest); len(left) > 0 || e != api.OK {
			t.Errorf("Moves of %v: %v, though %v are astray then", of, a.moves, left)
		}
	}
	if moved < 100 {
		t.Errorf("the tables have %d moves", moved)
	}
}

// P3.9: who misses something always.
func TestAllInTheirOwn(t *testing.T) {
	own, other := 0, 0
	for _, of := range append(truthful(400), full()) {
		a := ask(t, of)
		if a.astray.Lo == 0 {
			own++
			if slices.Contains(a.misses, always) {
				t.Errorf("Misses of %v: %v, though perhaps nothing is astray", of, a.misses)
			}
		}
		for n, l := range a.whose {
			if len(l) == 1 && l[0] != of.Pieces[n].Bundle {
				other++
				if a.misses[l[0]] != always {
					t.Errorf("Misses of %v: %v, though the piece %d is of %d", of, a.misses, n, l[0])
				}
			}
		}
	}
	if own < 50 || other < 50 {
		t.Errorf("the tables do not try enough: %d, %d", own, other)
	}
}

// readBetter returns the tables in which a piece has one of its marks less.
func readBetter(of bundle.Table) []bundle.Table {
	var out []bundle.Table
	for n, p := range of.Pieces {
		for i := range p.Marks {
			better := copied(of)
			better.Pieces[n].Marks = slices.Delete(better.Pieces[n].Marks, i, i+1)
			out = append(out, better)
		}
	}
	return slices.DeleteFunc(out, func(of bundle.Table) bool { return bundle.CheckTable(of) != api.OK })
}

// P3.10: if a mark can be read in fewer ways nothing is less sure.
func TestReadWell(t *testing.T) {
	tried := 0
	for _, of := range append(truthful(200), full()) {
		a := ask(t, of)
		for _, better := range readBetter(of) {
			if !hasTruth(t, better) {
				continue
			}
			tried++
			b := ask(t, better)
			if !subset(b.whose, a.whose) || b.astray.Lo < a.astray.Lo || len(b.moves) < len(a.moves) || len(astray(better, b.fewest)) < len(astray(of, a.fewest)) {
				t.Errorf("Whose, Astray, Moves, Fewest of %v: %v; of %v: %v", of, a, better, b)
			}
			for n, v := range a.misses {
				if v != perhaps && b.misses[n] != v {
					t.Errorf("Misses of %v: %v; of %v: %v", of, a.misses, better, b.misses)
				}
			}
		}
	}
	if tried < 200 {
		t.Errorf("tried %d", tried)
	}
}

// wider returns the tables with a count that is wider by one.
func wider(of bundle.Table) []bundle.Table {
	var out []bundle.Table
	for n := range of.Women {
		for _, by := range ranges(-1, 0, 0, 1) {
			w := copied(of)
			came := &w.Women[n].Came
			came.Lo, came.Hi = came.Lo+by.Lo, came.Hi+by.Hi
			out = append(out, w)
		}
	}
	return slices.DeleteFunc(out, func(of bundle.Table) bool { return bundle.CheckTable(of) != api.OK })
}

// P3.11: with a greater Wrong or a wider Came there are no fewer truths.
func TestMoreWrongCounts(t *testing.T) {
	for _, of := range many(200) {
		others := wider(of)
		for _, w := range others {
			if few, many := leave(t, w), leave(t, of); len(few) > len(many) {
				t.Errorf("Leave of %v: %v; of %v: %v", of, many, w, few)
			}
		}
		if of.Wrong < 5 {
			more := of
			more.Wrong++
			others = append(others, more)
			if few, many := leave(t, more), leave(t, of); !slices.Equal(few, many) {
				t.Errorf("Leave of %v: %v; of %v: %v", of, many, more, few)
			}
		}
		if !hasTruth(t, of) {
			continue
		}
		a := ask(t, of)
		for _, w := range others {
			b := ask(t, w)
			if !subset(a.whose, b.whose) || b.astray.Lo > a.astray.Lo || b.astray.Hi < a.astray.Hi || len(b.moves) > len(a.moves) {
				t.Errorf("Whose, Astray, Moves of %v: %v; of %v: %v", of, a, w, b)
			}
		}
	}
}

// P3.12: a piece that lies in another bundle changes nothing but how many are astray, by 1.
func TestOtherBundles(t *testing.T) {
	near := func(a, b int) bool { return a-b <= 1 && b-a <= 1 }
	for _, of := range append(truthful(150), full()) {
		a := ask(t, of)
		for n := range of.Pieces {
			for in := range of.Women {
				other := copied(of)
				other.Pieces[n].Bundle = in
				b := ask(t, other)
				if !sameLists(a.whose, b.whose) || !near(a.astray.Lo, b.astray.Lo) || !near(a.astray.Hi, b.astray.Hi) {
					t.Errorf("Whose, Astray of %v: %v; of %v: %v", of, a, other, b)
				}
			}
		}
	}
}

// P3.13: what is left if the owner of the piece is known, and that no other piece leaves fewer.
func TestLooked(t *testing.T) {
	sure, open := 0, 0
	for _, of := range append(truthful(300), full()) {
		a := ask(t, of)
		if a.piece < 0 {
			continue
		}
		all := proved(of)
		for n := range of.Pieces {
			most := 0
			for _, w := range a.whose[n] {
				most = max(most, len(with(all, n, w)))
			}
			if n == a.piece && most != a.left || most < a.left || n < a.piece && most == a.left {
				t.Errorf("Look of %v: %d, %d; the piece %d leaves %d", of, a.piece, a.left, n, most)
			}
		}
		if a.left == len(all) {
			sure++
		} else {
			open++
		}
	}
	if sure < 20 || open < 20 {
		t.Errorf("the tables do not try enough: %d, %d", sure, open)
	}
}

// exchanged is the number of a woman after two have exchanged theirs.
func exchanged(woman, one, other int) int {
	switch woman {
	case one:
		return other
	case other:
		return one
	}
	return woman
}

// exchange is the table after two women have exchanged their numbers.
func exchange(of bundle.Table, one, other int) bundle.Table {
	of = copied(of)
	of.Women[one], of.Women[other] = of.Women[other], of.Women[one]
	for n := range of.Pieces {
		of.Pieces[n].Bundle = exchanged(of.Pieces[n].Bundle, one, other)
	}
	return of
}

// P3.14, P7: with other numbers of the women all is the same but for these.
func TestOtherNumbers(t *testing.T) {
	for _, of := range append(truthful(200), full()) {
		a := ask(t, of)
		for other := range of.Women {
			for one := range other {
				x := exchange(of, one, other)
				b := ask(t, x)
				for n, l := range b.whose {
					for i := range l {
						l[i] = exchanged(l[i], one, other)
					}
					slices.Sort(b.whose[n])
				}
				b.misses[one], b.misses[other] = b.misses[other], b.misses[one]
				if !sameLists(a.whose, b.whose) || a.astray != b.astray || len(a.moves) != len(b.moves) || !slices.Equal(a.misses, b.misses) || a.piece != b.piece || a.left != b.left {
					t.Errorf("answers of %v: %v; of %v: %v", of, a, x, b)
				}
				if len(leave(t, of)) != len(leave(t, x)) {
					t.Errorf("Leave of %v: %v; of %v: %v", of, leave(t, of), x, leave(t, x))
				}
			}
		}
	}
}

// P3.15: the women before the first one whose count is wrong counted right with some owners; with her they did not.
func TestFirstIsTheFirst(t *testing.T) {
	firsts := map[int]int{}
	for _, of := range append(many(400), full()) {
		n, e := bundle.First(of)
		if e == api.ErrNone {
			if !hasTruth(t, without(of, nil)) {
				t.Errorf("First of %v: none", of)
			}
			continue
		}
		firsts[n]++
		if e != api.OK || !hasTruth(t, without(of, from(of, n))) || hasTruth(t, without(of, from(of, n+1))) {
			t.Errorf("First of %v: %d, %v", of, n, e)
		}
	}
	if firsts[0] < 20 || firsts[1] < 20 || firsts[2] < 5 {
		t.Errorf("the tables do not try enough: %v", firsts)
	}
}

// P3.16: without the counts of the smallest set all others are right with some owners; without those of any list before it they are not.
func TestLeftOut(t *testing.T) {
	lengths := map[int]int{}
	for _, of := range append(many(400), full()) {
		l := leave(t, of)
		lengths[len(l)]++
		if !hasTruth(t, without(of, l)) {
			t.Errorf("Leave of %v: %v", of, l)
		}
		for _, s := range sets(of) {
			if slices.Equal(s, l) {
				break
			}
			if hasTruth(t, without(of, s)) {
				t.Errorf("Leave of %v: %v, not %v", of, l, s)
			}
		}
	}
	if lengths[1] < 50 || lengths[2] < 20 || lengths[3] < 2 {
		t.Errorf("the tables do not try enough sets: %v", lengths)
	}
}
