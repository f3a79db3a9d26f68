package turn_test

import (
	"slices"
	"testing"

	"posser/api"
	"posser/turn"
)

const (
	always  = turn.Always
	never   = turn.Never
	perhaps = turn.Perhaps
)

// answers are what the calls return of a mangle that has a truth.
type answers struct {
	holds             [][]int
	has, jumped, next []int
	best              []int
	many              int
	entry, left       int // -1, 0: there are no entries
}

// ask calls all that needs a truth.
func ask(t *testing.T, m turn.Mangle) answers {
	t.Helper()
	var a answers
	var e [6]api.Errno
	a.holds, e[0] = turn.Holds(m)
	a.has, e[1] = turn.Has(m)
	a.jumped, e[2] = turn.Jumped(m)
	a.next, e[3] = turn.Next(m)
	a.best, a.many, e[4] = turn.Fewest(m)
	a.entry, a.left, e[5] = turn.Look(m)
	if e[5] == api.ErrNone && a.entry == 0 && a.left == 0 && len(m.Entries) == 0 {
		a.entry, e[5] = -1, api.OK
	}
	if e != [6]api.Errno{} {
		t.Fatalf("Holds, Has, Jumped, Next, Fewest, Look of %v: %v", m, e)
	}
	return a
}

func leave(t *testing.T, m turn.Mangle) []int {
	t.Helper()
	l, e := turn.Leave(m)
	if e != api.OK {
		t.Fatalf("Leave of %v: %v", m, e)
	}
	return l
}

func play(t *testing.T, m turn.Mangle, out []int) []int {
	t.Helper()
	l, e := turn.Play(m, out)
	if e != api.OK {
		t.Fatalf("Play of %v, %v: %v", m, out, e)
	}
	return l
}

func same(a, b [][]int) bool { return slices.EqualFunc(a, b, slices.Equal) }

// Each row of the chapter's table of examples, and the example 5 of the document.
func TestExamples(t *testing.T) {
	if l := truths(example(1)); !same(l, lists(list(2), list(3))) {
		t.Errorf("truths: %v", l)
	}
	for _, x := range []struct {
		out, want []int
		e         api.Errno
	}{{list(2), list(2, 0, 1), api.OK}, {list(3), list(3, 0, 2), api.OK}, {list(0), nil, api.ErrFail}, {nil, nil, api.ErrFail}} {
		if l, e := turn.Play(example(1), x.out); !slices.Equal(l, x.want) || e != x.e {
			t.Errorf("Play of %v: %v, %v", x.out, l, e)
		}
	}
	a := ask(t, example(1))
	if !same(a.holds, lists(list(2, 3), list(0), list(1, 2))) || !slices.Equal(a.has, list(always, perhaps, always, perhaps)) {
		t.Errorf("Holds, Has: %v, %v", a.holds, a.has)
	}
	if !slices.Equal(a.jumped, list(always, perhaps)) || !slices.Equal(a.next, list(2)) {
		t.Errorf("Jumped, Next: %v, %v", a.jumped, a.next)
	}
	if !slices.Equal(a.best, list(3)) || a.many != 1 {
		t.Errorf("Fewest: %v, %d", a.best, a.many)
	}
	s, e := turn.Back(example(1), list(3))
	if len(s) != 1 || s[0] != swap(0, 3) && s[0] != swap(3, 0) || e != api.OK {
		t.Errorf("Back of 3: %v, %v", s, e)
	}
	if s, e := turn.Back(example(1), list(2)); len(s) > 0 || e != api.ErrShort {
		t.Errorf("Back of 2: %v, %v", s, e)
	}
	if a.entry != 2 || a.left != 1 {
		t.Errorf("Look: %d, %d", a.entry, a.left)
	}
	if n, e := turn.First(example(1)); n != 3 || e != api.OK {
		t.Errorf("First: %d, %v", n, e)
	}
	if l := leave(t, example(1)); !slices.Equal(l, list(2)) {
		t.Errorf("Leave: %v", l)
	}
	if l, e := turn.Holds(example(0)); len(l) > 0 || e != api.ErrFalse {
		t.Errorf("Holds with Wrong 0: %v, %v", l, e)
	}
	if a := ask(t, example(2)); !same(a.holds, lists(list(0, 1, 2, 3), list(0, 2, 3), list(none, 1, 2))) {
		t.Errorf("Holds with Wrong 2: %v", a.holds)
	}
	if a := ask(t, plain(list(3, 4), 4, 3)); !slices.Equal(a.jumped, list(always, never)) {
		t.Errorf("Jumped of a woman with a later turn: %v", a.jumped)
	}
}

// P5.1: CheckMangle accepts the mangles, and Play and ProveTruth agree with the definitions for all false entries.
func TestPlayAndProveTruth(t *testing.T) {
	seen := map[api.Errno]int{}
	is, tooMany := 0, 0
	for _, m := range many(300) {
		if e := turn.CheckMangle(m); e != api.OK {
			t.Fatalf("CheckMangle of %v: %v", m, e)
		}
		for _, out := range sets(m) {
			held, ok := played(m, out)
			want := api.OK
			if !ok {
				want = api.ErrFail
			}
			seen[want]++
			if l, e := turn.Play(m, out); !slices.Equal(l, held) || e != want {
				t.Fatalf("Play of %v, %v: %v, %v; not %v, %v", m, out, l, e, held, want)
			}
			if turn.ProveTruth(m, out) != (ok && len(out) <= m.Wrong) {
				t.Fatalf("ProveTruth of %v, %v", m, out)
			}
			if ok && len(out) <= m.Wrong {
				is++
			} else if ok {
				tooMany++
			}
		}
	}
	if seen[api.OK] < 2000 || seen[api.ErrFail] < 2000 || is < 500 || tooMany < 500 {
		t.Errorf("the mangles do not try enough: %v, %d, %d", seen, is, tooMany)
	}
}

// P5.1: what each kind of entry does, by hand.
func TestPlayOfEachKind(t *testing.T) {
	for _, x := range []struct {
		turns []int
		what  turn.Entry
		want  []int // nil: it is not possible
	}{
		{list(0, none), sold(1, 1), list(0, 1)},
		{list(none), sold(0, 0), list(0)},
		{list(none, none), sold(1, 5), list(none, 5)},
		{list(0, none), sold(1, 0), nil}, // she holds one
		{list(0, none), sold(0, 1), nil}, // it is held
		{list(0, none), sold(0, 0), nil},
		{list(0, 1), sold(1, 0), nil},
		{list(0, 1), swapped(0, 1), list(1, 0)},
		{list(0, 1), swapped(1, 0), list(1, 0)},
		{list(0, none, 2, 1), swapped(1, 0), list(1, none, 2, 0)},
		{list(0, none), swapped(0, 1), nil},
		{list(0, none), swapped(1, 0), nil},
		{list(0, none), swapped(1, 2), nil},
		{list(0, none), given(0, 1), list(1, none)},
		{list(3, 0, 2), given(0, 5), list(3, 5, 2)},
		{list(0, 1), given(0, 1), nil},
		{list(0, none), given(1, 0), nil},
		{list(0, none), given(1, 2), nil},
		{nil, given(1, 2), nil},
		{nil, swapped(1, 2), nil},
	} {
		m := with(0, x.turns, x.what)
		l, e := turn.Play(m, nil)
		if !slices.Equal(l, x.want) || (e == api.OK) != (x.want != nil) || e != api.OK && e != api.ErrFail || turn.ProveTruth(m, nil) != (e == api.OK) {
			t.Errorf("Play of %v, %v: %v, %v", x.turns, x.what, l, e)
		}
		if l := play(t, m, list(0)); !slices.Equal(l, x.turns) || turn.ProveTruth(m, list(0)) {
			t.Errorf("Play of %v without %v: %v", x.turns, x.what, l)
		}
	}
	if l := play(t, small(), nil); len(l) > 0 {
		t.Errorf("Play of no turns: %v", l)
	}
	if l := play(t, full(), nil); !slices.Equal(l, list(5, 0, 4, 3, 1, 2)) {
		t.Errorf("Play of the full mangle: %v", l)
	}
}

// P5.1: what is a truth, by hand.
func TestProveTruthAtItsEdges(t *testing.T) {
	bad := example(1)
	bad.Used = list(0, 0)
	for _, x := range []struct {
		m    turn.Mangle
		out  []int
		want bool
	}{
		{small(), nil, true},
		{small(), list(0), false},
		{example(1), list(2), true},
		{example(1), list(3), true},
		{example(1), nil, false},
		{example(1), list(0), false},
		{example(1), list(2, 3), false},
		{example(2), list(2, 3), true},
		{example(2), list(3, 2), false},
		{example(2), list(2, 2), false},
		{example(2), list(3, 4), false},
		{example(2), list(-1, 3), false},
		{example(0), list(3), false},
		{example(3), list(0, 1, 2, 3), false},
		{example(4), list(0, 1, 2, 3), true},
		{example(8), list(0, 1, 2, 3), true},
		{full(), nil, true},
		{full(), list(0, 1, 2, 3, 4, 5, 6, 7), true},
		{full(), list(0), false},
		{full(), list(7), true},
		{bad, list(2), false},
	} {
		if is := turn.ProveTruth(x.m, x.out); is != x.want {
			t.Errorf("ProveTruth of %v, %v: %v", x.m, x.out, is)
		}
	}
}

// P5.2, P5.3, P5.4: Holds, Has, Jumped, Next and Fewest are what the definitions say over all truths.
func TestAnswersOverAllTruths(t *testing.T) {
	seenHas, seenJumped, seenNext, seenMany := map[int]int{}, map[int]int{}, map[int]int{}, map[int]int{}
	for _, m := range truthful(500) {
		a, all := ask(t, m), heldIn(m)
		if len(a.holds) != len(m.Turns) || len(a.has) != m.Women || len(a.jumped) != len(m.Used) {
			t.Fatalf("Holds, Has, Jumped of %v: %v", m, a)
		}
		for i := range m.Turns {
			if want := anyOf(all, func(held []int) int { return held[i] }); !slices.Equal(a.holds[i], want) {
				t.Errorf("Holds of %v: %v; the turn %d is held by %v", m, a.holds, i, want)
			}
		}
		for woman := range m.Women {
			want := verdict(all, func(held []int) bool { return slices.Contains(held, woman) })
			if a.has[woman] != want {
				t.Errorf("Has of %v: %v; of %d it is %d", m, a.has, woman, want)
			}
			seenHas[want]++
		}
		for use := range m.Used {
			want := verdict(all, func(held []int) bool { return jumped(m, held, use) })
			if a.jumped[use] != want {
				t.Errorf("Jumped of %v: %v; of the use %d it is %d", m, a.jumped, use, want)
			}
			seenJumped[want]++
		}
		want := anyOf(all, func(held []int) int { return next(m, held) })
		if !slices.Equal(a.next, want) {
			t.Errorf("Next of %v: %v, not %v", m, a.next, want)
		}
		seenNext[len(want)]++
		seenMany[checkFewest(t, m, a)]++
	}
	for _, seen := range []map[int]int{seenHas, seenJumped} {
		if seen[always] < 100 || seen[never] < 100 || seen[perhaps] < 100 {
			t.Errorf("the mangles do not try enough: %v", seen)
		}
	}
	if seenNext[1] < 50 || seenNext[2] < 50 || seenNext[3] < 20 || seenMany[0] < 50 || seenMany[1] < 50 || seenMany[2] < 20 {
		t.Errorf("the mangles do not try enough: %v, %v", seenNext, seenMany)
	}
}

// checkFewest looks for the first of the truths in which the fewest jumped.
func checkFewest(t *testing.T, m turn.Mangle, a answers) int {
	t.Helper()
	var want []int
	fewest := 7
	for i, held := range heldIn(m) {
		if n := manyJumped(m, held); n < fewest {
			want, fewest = truths(m)[i], n
		}
	}
	if !slices.Equal(a.best, want) || a.many != fewest {
		t.Errorf("Fewest of %v: %v, %d; not %v, %d", m, a.best, a.many, want, fewest)
	}
	return fewest
}

// P5.2, P5.3, P5.4: by hand.
func TestAnswersAtTheirEdges(t *testing.T) {
	later := with(1, list(0, 1, 2), swapped(0, 1), swapped(1, 2)) // 1, 0, 2 and then 2, 0, 1
	order := func(women ...int) turn.Mangle {
		m := later
		m.Used = women
		return m
	}
	six := list(always, always, always, never, never, never)
	for _, x := range []struct {
		m                       turn.Mangle
		holds                   [][]int
		has, jumped, next, best []int
		many                    int
	}{
		{small(), nil, list(never), nil, list(none), nil, 0},
		{plain(nil, 3, 1), nil, list(never, never, never, never, never, never), list(always, always), list(none), nil, 2},
		{plain(list(none, 2)), lists(list(none), list(2)), list(never, never, always, never, never, never), nil, list(2), nil, 0},
		{plain(list(none, 2), 2), lists(list(none), list(2)), list(never, never, always, never, never, never), list(never), list(none), nil, 0},
		{plain(list(0, 1, 2), 1, 0, 2), lists(list(0), list(1), list(2)), six, list(always, never, never), list(none), nil, 1},
		{plain(list(0, 1, 2), 2, 1, 0), lists(list(0), list(1), list(2)), six, list(always, always, never), list(none), nil, 2},
		{plain(list(0, 1, 2), 2, 0, 1), lists(list(0), list(1), list(2)), six, list(always, never, never), list(none), nil, 1},
		{plain(list(0, 1, 2), 5, 0, 4, 1), lists(list(0), list(1), list(2)), six, list(always, never, always, never), list(2), nil, 2},
		{plain(list(0, 1, 2), 2), lists(list(0), list(1), list(2)), six, list(always), list(0), nil, 1},
		{plain(list(0, 1, 2), 0, 2), lists(list(0), list(1), list(2)), six, list(never, always), list(1), nil, 1},
		{order(), lists(list(0, 1, 2), list(0, 2), list(1, 2)), six, nil, list(0, 1, 2), nil, 0},
		{order(2, 0, 1), lists(list(0, 1, 2), list(0, 2), list(1, 2)), six, list(perhaps, perhaps, never), list(none), nil, 0},
		{order(1, 0, 2), lists(list(0, 1, 2), list(0, 2), list(1, 2)), six, list(perhaps, perhaps, never), list(none), list(1), 0},
		{order(0, 2, 1), lists(list(0, 1, 2), list(0, 2), list(1, 2)), six, list(perhaps, perhaps, never), list(none), list(0), 0},
		{order(0, 1), lists(list(0, 1, 2), list(0, 2), list(1, 2)), six, list(perhaps, perhaps), list(2), list(0), 1}, // none false: both jumped
		{used(4, 1, 0), lists(list(0, 1, 2, 3), list(0, 1, 2, 3), list(none, 1, 2)), list(always, perhaps, perhaps, perhaps), list(perhaps, perhaps), list(none, 2, 3), list(2, 3), 0},
		{with(0, list(none, none), sold(1, 4)), lists(list(none), list(4)), list(never, never, never, never, always, never), nil, list(4), nil, 0},
		{with(1, list(none, none), sold(1, 4)), lists(list(none), list(none, 4)), list(never, never, never, never, perhaps, never), nil, list(none, 4), nil, 0},
		{with(1, list(none, none), sold(1, 4), sold(1, 3)), lists(list(none), list(3, 4)), list(never, never, never, perhaps, perhaps, never), nil, list(3, 4), list(0), 0},
	} {
		a := ask(t, x.m)
		if !same(a.holds, x.holds) || !slices.Equal(a.has, x.has) || !slices.Equal(a.jumped, x.jumped) || !slices.Equal(a.next, x.next) || !slices.Equal(a.best, x.best) || a.many != x.many {
			t.Errorf("answers of %v: %v", x.m, a)
		}
	}
}

// P5.5: Back and ProveBack are what the definitions say of all false entries.
func TestBackAndProveBack(t *testing.T) {
	seen := map[int]int{}
	for i, m := range append(many(300), full()) {
		for j, out := range possible(m) {
			if (i+j)%3 > 0 { // so that the test is soon done
				continue
			}
			held, _ := played(m, out)
			want := fewestBack(m, held)
			seen[want]++
			s, e := turn.Back(m, out)
			if want < 0 {
				if len(s) > 0 || e != api.ErrShort || turn.ProveBack(m, out, s, 9) {
					t.Errorf("Back of %v, %v: %v, %v", m, out, s, e)
				}
				continue
			}
			if e != api.OK || len(s) != want || !areBack(m, held, s) {
				t.Errorf("Back of %v, %v: %v, %v; the fewest are %d", m, out, s, e, want)
			}
			if !turn.ProveBack(m, out, s, want) || !turn.ProveBack(m, out, s, want+1) || turn.ProveBack(m, out, s, want-1) {
				t.Errorf("ProveBack of %v, %v, %v", m, out, s)
			}
		}
	}
	if seen[-1] < 100 || seen[0] < 100 || seen[1] < 100 || seen[2] < 20 || seen[3] < 5 {
		t.Errorf("the mangles do not try enough: %v", seen)
	}
}

// P5.5: ProveBack of all swaps that are few, also of those that no swaps are.
func TestProveBackOfAllSwaps(t *testing.T) {
	is, isNot := 0, 0
	for _, m := range many(100) {
		all := append(pairs(m.Women), swap(0, 0), swap(0, m.Women), swap(none, 0), swap(m.Women-1, 0))
		for i, out := range possible(m) {
			if i > 1 {
				break
			}
			held, _ := played(m, out)
			var some [][]turn.Swap
			for _, a := range all {
				some = append(some, []turn.Swap{a})
				for _, b := range all {
					some = append(some, []turn.Swap{a, b})
				}
			}
			for _, s := range append(some, nil) {
				want := areBack(m, held, s)
				if turn.ProveBack(m, out, s, len(s)) != want || turn.ProveBack(m, out, s, len(s)-1) {
					t.Fatalf("ProveBack of %v, %v, %v: %v", m, out, s, !want)
				}
				if want {
					is++
				} else {
					isNot++
				}
			}
		}
	}
	if is < 500 || isNot < 500 {
		t.Errorf("the mangles do not try enough: %d, %d", is, isNot)
	}
}

// P5.5: the fewest swaps back, by hand.
func TestBackAtItsEdges(t *testing.T) {
	row := list(0, 1, 2, 3, 4, 5)
	for _, x := range []struct {
		m    turn.Mangle
		out  []int
		many int
	}{
		{small(), nil, 0},
		{plain(nil), nil, 0},
		{plain(row), nil, 0},
		{plain(row, 0, 1, 2, 3, 4, 5), nil, 0},
		{plain(row, 0, 1, 2), nil, 0},
		{plain(row, 1, 0), nil, 1},
		{plain(row, 1, 0, 3, 2, 5, 4), nil, 3},
		{plain(row, 1, 2, 0, 4, 5, 3), nil, 4},
		{plain(row, 1, 2, 3, 4, 5, 0), nil, 5},
		{plain(row, 5, 0, 1, 2, 3, 4), nil, 5},
		{plain(row, 5, 0, 1, 2, 3), nil, 5}, // it is no ring yet, but the woman 4 has the last turn in it
		{plain(row, 5), nil, 1},
		{plain(row, 5, 1), nil, 1},
		{plain(row, 5, 4, 3), nil, 3},
		{plain(row, 3, 4, 5), nil, 3},
		{plain(row, 3, 0), nil, 2},
		{plain(list(none, 0, none, 1, none, none), 0, 1), nil, 0},
		{plain(list(none, 0, none, 1, none, none), 1, 0), nil, 1},
		{plain(list(none, none, 4, 3, none, 2), 2, 3, 4), nil, 1},
		{example(0), list(3), 1}, // Wrong does not matter to it
		{used(1, 3, 0), list(3), 0},
		{used(1, 0, 2, 3), list(3), 2},
		{used(1), list(2), 0},
	} {
		s, e := turn.Back(x.m, x.out)
		if e != api.OK || len(s) != x.many || !turn.ProveBack(x.m, x.out, s, x.many) || turn.ProveBack(x.m, x.out, s, x.many-1) {
			t.Errorf("Back of %v, %v: %v, %v", x.m, x.out, s, e)
		}
	}
}

// P5.5: what are swaps back, by hand.
func TestProveBackAtItsEdges(t *testing.T) {
	bad := example(1)
	bad.Wrong = 9
	one := []turn.Swap{swap(3, 0)}
	for _, x := range []struct {
		m     turn.Mangle
		out   []int
		swaps []turn.Swap
		many  int
		want  bool
	}{
		{example(1), list(3), one, 1, true},
		{example(1), list(3), one, 0, false},
		{example(1), list(3), one, -1, false},
		{example(1), list(3), one, 1 << 62, true},
		{example(0), list(3), one, 1, true}, // Wrong does not matter to it
		{example(1), list(3), []turn.Swap{swap(0, 3)}, 1, true},
		{example(1), list(3), nil, 9, false},
		{example(1), list(3), []turn.Swap{swap(0, 2), swap(3, 2), swap(0, 2)}, 3, true}, // more than the fewest
		{example(1), list(3), []turn.Swap{swap(3, 0), swap(3, 0)}, 9, false},
		{example(1), list(3), []turn.Swap{swap(3, 0), swap(3, 0), swap(3, 0)}, 9, true},
		{example(1), list(3), []turn.Swap{swap(3, 0), swap(0, 0)}, 9, false},
		{example(1), list(3), []turn.Swap{swap(1, 1), swap(3, 0)}, 9, false},
		{example(1), list(3), []turn.Swap{swap(3, 0), swap(0, 1)}, 9, false}, // the woman 1 holds no turn
		{example(1), list(3), []turn.Swap{swap(1, 0), swap(3, 0)}, 9, false},
		{example(1), list(3), []turn.Swap{swap(3, 0), swap(0, 4)}, 9, false},
		{example(2), list(2, 3), []turn.Swap{swap(none, 0)}, 9, false},
		{example(4), list(0, 1, 2, 3), []turn.Swap{swap(0, none)}, 9, false},
		{example(1), list(2), one, 9, false},
		{example(1), list(0), one, 9, false},
		{example(1), list(3, 3), one, 9, false},
		{example(1), list(4), one, 9, false},
		{example(1), nil, one, 9, false},
		{bad, list(3), one, 9, false},
		{small(), nil, nil, 0, true},
		{small(), nil, nil, -1, false},
	} {
		if is := turn.ProveBack(x.m, x.out, x.swaps, x.many); is != x.want {
			t.Errorf("ProveBack of %v, %v, %v, %d: %v", x.m, x.out, x.swaps, x.many, is)
		}
	}
}

// P5.6: Look is what the definitions say of all entries.
func TestLook(t *testing.T) {
	entries, sure, ties := map[int]int{}, 0, 0
	for _, m := range truthful(600) {
		a := ask(t, m)
		entry, least := -1, 0
		for n := range m.Entries {
			l := left(m, n)
			if entry >= 0 && l == least {
				ties++
			}
			if entry < 0 || l < least {
				entry, least = n, l
			}
		}
		if a.entry != entry || a.left != least {
			t.Errorf("Look of %v: %d, %d; not %d, %d", m, a.entry, a.left, entry, least)
		}
		entries[entry]++
		if len(m.Entries) > 0 && least == len(truths(m)) {
			sure++
		}
	}
	if entries[0] < 20 || entries[1] < 20 || entries[2] < 10 || entries[3] < 5 || sure < 10 || ties < 100 {
		t.Errorf("the mangles do not try enough: %v, %d, %d", entries, sure, ties)
	}
}

// P5.6: by hand. Of several entries the first one counts.
func TestLookAtItsEdges(t *testing.T) {
	for _, x := range []struct {
		m           turn.Mangle
		entry, left int
	}{
		{small(), -1, 0},
		{plain(list(0, 1)), -1, 0},
		{example(1), 2, 1},
		{example(2), 2, 3},
		{with(0, list(0, 1), swapped(0, 1)), 0, 1},
		{with(1, list(0, 1), swapped(0, 1)), 0, 1},
		{with(0, list(0, 1), swapped(0, 1), swapped(0, 1)), 0, 1},
		{with(1, list(0, 1), swapped(0, 1), swapped(0, 1)), 0, 2},
		{with(2, list(0, 1), swapped(0, 1), swapped(0, 1)), 0, 2},
		{with(8, list(0, 1), swapped(0, 1), swapped(0, 1), swapped(0, 1)), 0, 4},
		{with(1, list(0, none), given(1, 2), swapped(3, 4), sold(1, 1)), -2, 0},
		{with(2, list(0, none), given(1, 2), swapped(3, 4), sold(1, 1)), 0, 1},
		{with(3, list(0, none), given(1, 2), swapped(3, 4), sold(1, 1)), 2, 1},
		{with(1, list(none), sold(0, 1), sold(0, 2)), 0, 1},
		{with(2, list(none), sold(0, 1), sold(0, 2)), 0, 2},
	} {
		n, l, e := turn.Look(x.m)
		switch {
		case x.entry == -2 && e == api.ErrFalse && n == 0 && l == 0:
		case x.entry == -1 && e == api.ErrNone && n == 0 && l == 0:
		case x.entry >= 0 && e == api.OK && n == x.entry && l == x.left:
		default:
			t.Errorf("Look of %v: %d, %d, %v", x.m, n, l, e)
		}
	}
}

// P5.7: First and Leave are what the definitions say.
func TestFirstAndLeave(t *testing.T) {
	for _, m := range many(600) {
		n := -1
		for i := range m.Entries {
			begun := m
			begun.Entries = m.Entries[:i+1]
			if _, ok := played(begun, nil); !ok {
				n = i
				break
			}
		}
		got, e := turn.First(m)
		if n < 0 && (got != 0 || e != api.ErrNone) || n >= 0 && (got != n || e != api.OK) {
			t.Errorf("First of %v: %d, %v; not %d", m, got, e, n)
		}
		if l := leave(t, m); !slices.Equal(l, possible(m)[0]) {
			t.Errorf("Leave of %v: %v, not %v", m, l, possible(m)[0])
		}
	}
}

// P5.7: by hand. Wrong matters to neither of them.
func TestFirstAndLeaveAtTheirEdges(t *testing.T) {
	same := slices.Repeat([]turn.Entry{sold(0, 1)}, 8)
	for _, x := range []struct {
		m     turn.Mangle
		first int
		e     api.Errno
		leave []int
	}{
		{small(), 0, api.ErrNone, nil},
		{plain(list(0, 1)), 0, api.ErrNone, nil},
		{full(), 0, api.ErrNone, nil},
		{example(0), 3, api.OK, list(2)},
		{example(8), 3, api.OK, list(2)},
		{with(0, list(0, 1), swapped(0, 1), swapped(0, 1)), 0, api.ErrNone, nil},
		{with(0, list(0, none), given(1, 2)), 0, api.OK, list(0)},
		{with(0, list(0, none), given(1, 2), given(0, 1)), 0, api.OK, list(0)},
		{with(0, list(0, none), given(0, 1), given(0, 2)), 1, api.OK, list(0)},
		{with(0, list(0, none), given(1, 2), given(0, 1), sold(1, 1)), 0, api.OK, list(0, 1)},
		{with(0, list(none, none), sold(0, 1), sold(0, 2), sold(1, 1)), 1, api.OK, list(0)},
		{with(0, list(none, none), sold(0, 1), sold(0, 1), sold(1, 1)), 1, api.OK, list(0, 1)},
		{with(0, list(none), same...), 1, api.OK, list(0, 1, 2, 3, 4, 5, 6)},
		{with(0, list(1), same...), 0, api.OK, list(0, 1, 2, 3, 4, 5, 6, 7)},
		{with(0, nil, swapped(0, 1), given(0, 1)), 0, api.OK, list(0, 1)},
		{with(0, list(0, 1), swapped(0, 1), swapped(2, 3), swapped(0, 1), swapped(4, 5)), 1, api.OK, list(1, 3)},
	} {
		if n, e := turn.First(x.m); n != x.first || e != x.e {
			t.Errorf("First of %v: %d, %v", x.m, n, e)
		}
		if l := leave(t, x.m); !slices.Equal(l, x.leave) {
			t.Errorf("Leave of %v: %v", x.m, l)
		}
	}
}
