package turn_test

import (
	"slices"
	"testing"

	"posser/api"
	"posser/turn"
)

// hasTruth asks a call that needs one.
func hasTruth(t *testing.T, m turn.Mangle) bool {
	t.Helper()
	_, e := turn.Holds(m)
	if e != api.OK && e != api.ErrFalse {
		t.Fatalf("Holds of %v: %v", m, e)
	}
	return e == api.OK
}

// proved returns the truths by ProveTruth.
func proved(m turn.Mangle) [][]int {
	return slices.DeleteFunc(sets(m), func(out []int) bool { return !turn.ProveTruth(m, out) })
}

// contains reports whether a list has all numbers of the other one.
func contains(l, other []int) bool {
	return !slices.ContainsFunc(other, func(n int) bool { return !slices.Contains(l, n) })
}

func held(turns []int) int {
	return len(slices.DeleteFunc(slices.Clone(turns), func(h int) bool { return h == none }))
}

// P5.8: in each truth each turn has a holder that Holds returns, each of these in some truth; no woman holds two, and as many are held as at first and for each Sell that is not false.
func TestHoldersInEachTruth(t *testing.T) {
	more := 0
	for _, m := range truthful(500) {
		holds := ask(t, m).holds
		reached := map[[2]int]bool{}
		for _, out := range proved(m) {
			l := play(t, m, out)
			many := held(m.Turns)
			for n, e := range m.Entries {
				if e.Kind == turn.Sold && !slices.Contains(out, n) {
					many++
					more++
				}
			}
			if held(l) != many {
				t.Errorf("Play of %v, %v: %v, of which %d should be held", m, out, l, many)
			}
			for i, holder := range l {
				reached[[2]int{i, holder}] = true
				if !slices.Contains(holds[i], holder) {
					t.Errorf("Holds of %v: %v, though there is %v", m, holds, out)
				}
				if holder != none && slices.Contains(l[:i], holder) {
					t.Errorf("Play of %v, %v: %v", m, out, l)
				}
			}
		}
		for i, l := range holds {
			for j, holder := range l {
				if !reached[[2]int{i, holder}] || j > 0 && l[j-1] >= holder {
					t.Errorf("Holds of %v: %v, but not %d, %d", m, holds, i, holder)
				}
			}
		}
	}
	if more < 500 {
		t.Errorf("the mangles have %d Sells", more)
	}
}

// P5.8: what is so always, or never, is so, and what is so perhaps is so in some truths alone.
func TestVerdictsInEachTruth(t *testing.T) {
	for _, m := range truthful(500) {
		a := ask(t, m)
		has, jumps, nexts, all := make([]int, m.Women), make([]int, len(m.Used)), map[int]bool{}, proved(m)
		for _, out := range all {
			l := play(t, m, out)
			nexts[next(m, l)] = true
			for woman := range has {
				if slices.Contains(l, woman) {
					has[woman]++
				}
			}
			for use := range jumps {
				if jumped(m, l, use) {
					jumps[use]++
				}
			}
		}
		for woman, n := range has {
			if !agrees(a.has[woman], n, len(all)) {
				t.Errorf("Has of %v: %v, though %d has one in %d truths of %d", m, a.has, woman, n, len(all))
			}
		}
		for use, n := range jumps {
			if !agrees(a.jumped[use], n, len(all)) {
				t.Errorf("Jumped of %v: %v, though the use %d did in %d truths of %d", m, a.jumped, use, n, len(all))
			}
		}
		for woman := none; woman < m.Women; woman++ {
			if nexts[woman] != slices.Contains(a.next, woman) {
				t.Errorf("Next of %v: %v", m, a.next)
			}
		}
	}
}

func agrees(verdict, so, all int) bool {
	switch verdict {
	case always:
		return so == all
	case never:
		return so == 0
	case perhaps:
		return 0 < so && so < all
	}
	return false
}

// P5.8: there is a truth if and only if the smallest set has at most Wrong entries.
func TestThereIsATruth(t *testing.T) {
	is, isNot := 0, 0
	for _, m := range many(300) {
		l := leave(t, m)
		for m.Wrong = range 9 {
			want := len(l) <= m.Wrong
			if hasTruth(t, m) != want || len(proved(m)) > 0 != want || turn.ProveTruth(m, l) != want {
				t.Errorf("the truths of %v, though the smallest set is %v", m, l)
			}
			if want {
				is++
			} else {
				isNot++
			}
		}
	}
	if is < 500 || isNot < 100 {
		t.Errorf("the mangles do not try enough: %d, %d", is, isNot)
	}
}

// P5.9: in no truth fewer women jumped than in the best one, nor as many, so that it comes before it.
func TestNoFewer(t *testing.T) {
	ties := 0
	for _, m := range truthful(500) {
		a := ask(t, m)
		if !turn.ProveTruth(m, a.best) || manyJumped(m, play(t, m, a.best)) != a.many {
			t.Errorf("Fewest of %v: %v, %d", m, a.best, a.many)
		}
		before := true
		for _, out := range proved(m) {
			before = before && !slices.Equal(out, a.best)
			n := manyJumped(m, play(t, m, out))
			if n < a.many || n == a.many && before {
				t.Errorf("Fewest of %v: %v, %d, though there is %v, %d", m, a.best, a.many, out, n)
			}
			if n == a.many && !before {
				ties++
			}
		}
	}
	if ties < 500 {
		t.Errorf("the mangles have %d ties", ties)
	}
}

// fewer returns swaps that are fewer than n: all lists of at most two, and some longer ones.
func fewer(d *dice, women, n int) [][]turn.Swap {
	all := pairs(women)
	out := [][]turn.Swap{nil}
	for _, a := range all {
		out = append(out, []turn.Swap{a})
		for _, b := range all {
			out = append(out, []turn.Swap{a, b})
		}
	}
	for range 50 {
		if len(all) == 0 {
			break
		}
		var l []turn.Swap
		for range n - 1 {
			l = append(l, all[d.below(len(all))])
		}
		out = append(out, l)
	}
	return slices.DeleteFunc(out, func(l []turn.Swap) bool { return len(l) >= n })
}

// P5.10: after the fewest swaps back nobody jumped, and after no fewer; they are at most as many as the women who used the mangle, and none if and only if nobody jumped.
func TestSwappedBack(t *testing.T) {
	d, seen := &dice{state: 5}, map[int]int{}
	for _, m := range many(400) {
		for i, out := range possible(m) {
			if i > 2 {
				break
			}
			s, e := turn.Back(m, out)
			if e == api.ErrShort {
				continue
			}
			seen[len(s)]++
			l := play(t, m, out)
			if e != api.OK || len(s) > len(m.Used) || (len(s) == 0) != (manyJumped(m, l) == 0) {
				t.Errorf("Back of %v, %v: %v, %v", m, out, s, e)
			}
			now := plain(l, m.Used...)
			for _, x := range s {
				now.Entries = append(now.Entries, swapped(x.A, x.B))
			}
			if a := ask(t, now); a.many > 0 || slices.ContainsFunc(a.jumped, func(v int) bool { return v != never }) {
				t.Errorf("Back of %v, %v: %v; then Jumped: %v", m, out, s, a.jumped)
			}
			for _, few := range fewer(d, m.Women, len(s)) {
				if turn.ProveBack(m, out, few, len(few)) {
					t.Errorf("Back of %v, %v: %v, though there is %v", m, out, s, few)
				}
			}
		}
	}
	if seen[0] < 50 || seen[1] < 50 || seen[2] < 20 || seen[3] < 5 {
		t.Errorf("the mangles do not try enough: %v", seen)
	}
}

// P5.11: with a greater Wrong whoever could hold a turn, or be the next one, still can; no verdict becomes other than Perhaps unless it was so.
func TestMoreWrongEntries(t *testing.T) {
	wider := 0
	for _, m := range truthful(400) {
		a := ask(t, m)
		for more := m.Wrong + 1; more <= api.MaxTurnEntries; more++ {
			o := m
			o.Wrong = more
			b := ask(t, o)
			for i, l := range a.holds {
				if !contains(b.holds[i], l) {
					t.Errorf("Holds of %v: %v; of %v: %v", m, a.holds, o, b.holds)
				}
			}
			if !contains(b.next, a.next) || b.many > a.many {
				t.Errorf("Next, Fewest of %v: %v, %d; of %v: %v, %d", m, a.next, a.many, o, b.next, b.many)
			}
			was, is := slices.Concat(a.has, a.jumped), slices.Concat(b.has, b.jumped)
			for i, v := range is {
				if v != perhaps && v != was[i] {
					t.Errorf("verdicts of %v: %v; of %v: %v", m, was, o, is)
				}
				if v != was[i] {
					wider++
				}
			}
		}
	}
	if wider < 500 {
		t.Errorf("the verdicts change %d times", wider)
	}
}

// P5.12: with one more entry, after all others, no fewer entries have to be false, but at most one more.
func TestOneMoreEntry(t *testing.T) {
	seen := map[int]int{}
	for i, m := range many(300) {
		if len(m.Entries) == api.MaxTurnEntries {
			continue
		}
		few := len(leave(t, m))
		for j, e := range allEntries(m) {
			if (i+j)%3 > 0 { // so that the test is soon done
				continue
			}
			o := copied(m)
			o.Entries = append(o.Entries, e)
			n := len(leave(t, o))
			seen[n-few]++
			if n < few || n > few+1 {
				t.Errorf("Leave of %v: %v; of %v: %v", m, leave(t, m), o, leave(t, o))
			}
		}
	}
	if seen[0] < 500 || seen[1] < 500 {
		t.Errorf("the mangles do not try enough: %v", seen)
	}
}

// P5.13: if one more woman uses the mangle, whether those before her jumped does not change; if she surely is the next one, she jumped never.
func TestOneMoreUse(t *testing.T) {
	sure, other := 0, 0
	for _, m := range truthful(500) {
		a := ask(t, m)
		for woman := range m.Women {
			if slices.Contains(m.Used, woman) {
				continue
			}
			o := copied(m)
			o.Used = append(o.Used, woman)
			b := ask(t, o)
			last := len(m.Used)
			if len(b.jumped) != last+1 || !slices.Equal(b.jumped[:last], a.jumped) {
				t.Fatalf("Jumped of %v: %v; of %v: %v", m, a.jumped, o, b.jumped)
			}
			if slices.Equal(a.next, list(woman)) {
				sure++
				if b.jumped[last] != never {
					t.Errorf("Jumped of %v: %v, though she is the next one", o, b.jumped)
				}
			} else if b.jumped[last] != never {
				other++
			}
		}
	}
	if sure < 50 || other < 200 {
		t.Errorf("the mangles do not try enough: %d, %d", sure, other)
	}
}

// answered returns how many truths are left if it is known whether the entry is false.
func answered(all [][]int, entry int) (is, isNot int) {
	for _, out := range all {
		if slices.Contains(out, entry) {
			is++
		} else {
			isNot++
		}
	}
	return is, isNot
}

// P5.14: if it is known whether the entry to ask about is false, at most as many truths are left as Look says, and for one answer as many; an answer about no other entry leaves fewer.
func TestAsked(t *testing.T) {
	halved := 0
	for _, m := range truthful(500) {
		a, all := ask(t, m), proved(m)
		if a.entry < 0 {
			continue
		}
		is, isNot := answered(all, a.entry)
		if is > a.left || isNot > a.left || is != a.left && isNot != a.left {
			t.Errorf("Look of %v: %d, %d, though %d and %d truths are left", m, a.entry, a.left, is, isNot)
		}
		if is > 0 && isNot > 0 {
			halved++
		}
		for n := range m.Entries {
			if is, isNot := answered(all, n); max(is, isNot) < a.left {
				t.Errorf("Look of %v: %d, %d, though the entry %d leaves %d and %d", m, a.entry, a.left, n, is, isNot)
			}
		}
	}
	if halved < 100 {
		t.Errorf("%d answers tell something", halved)
	}
}

// exchanged is the mangle in which two women have each other's numbers.
func exchanged(m turn.Mangle, a, b int) turn.Mangle {
	m = copied(m)
	for i := range m.Turns {
		m.Turns[i] = other(m.Turns[i], a, b)
	}
	for i, e := range m.Entries {
		if e.Kind != turn.Sold {
			m.Entries[i].A = other(e.A, a, b)
		}
		m.Entries[i].B = other(e.B, a, b)
	}
	for i := range m.Used {
		m.Used[i] = other(m.Used[i], a, b)
	}
	return m
}

func other(woman, a, b int) int {
	switch woman {
	case a:
		return b
	case b:
		return a
	}
	return woman
}

// P5.15, P7: if two women exchange their numbers, who can hold each turn is the same but for these, and as many women jumped in the best truth.
func TestOtherNumbers(t *testing.T) {
	tried := 0
	for _, m := range truthful(300) {
		x := ask(t, m)
		for _, s := range pairs(m.Women) {
			o := exchanged(m, s.A, s.B)
			y := ask(t, o)
			tried++
			for i, l := range y.holds {
				for j := range l {
					l[j] = other(l[j], s.A, s.B)
				}
				slices.Sort(l)
				if !slices.Equal(l, x.holds[i]) {
					t.Errorf("Holds of %v: %v; of %v: %v", m, x.holds, o, y.holds)
				}
			}
			if x.many != y.many || len(x.holds) != len(y.holds) {
				t.Errorf("Fewest of %v: %d; of %v: %d", m, x.many, o, y.many)
			}
		}
	}
	if tried < 500 {
		t.Errorf("tried %d", tried)
	}
}

// P5.16: the entries before the first wrong one are all possible; with this one they are not.
func TestFirstIsTheFirst(t *testing.T) {
	firsts := map[int]int{}
	for _, m := range many(500) {
		n, e := turn.First(m)
		if e == api.ErrNone {
			play(t, m, nil)
			continue
		}
		firsts[n]++
		before, begun := m, m
		before.Entries, begun.Entries = m.Entries[:n], m.Entries[:n+1]
		play(t, before, nil)
		if _, f := turn.Play(begun, nil); e != api.OK || f != api.ErrFail {
			t.Errorf("First of %v: %d, %v", m, n, e)
		}
	}
	if firsts[0] < 20 || firsts[1] < 20 || firsts[2] < 10 || firsts[3] < 5 {
		t.Errorf("the mangles do not try enough: %v", firsts)
	}
}

// P5.17: the smallest set is possible; no list before it is.
func TestLeftOut(t *testing.T) {
	lengths := map[int]int{}
	for _, m := range many(500) {
		l := leave(t, m)
		lengths[len(l)]++
		play(t, m, l)
		for _, s := range sets(m) {
			if slices.Equal(s, l) {
				break
			}
			if _, e := turn.Play(m, s); e != api.ErrFail {
				t.Errorf("Leave of %v: %v, not %v", m, l, s)
			}
		}
	}
	if lengths[1] < 50 || lengths[2] < 10 || lengths[3] < 3 {
		t.Errorf("the mangles do not try enough sets: %v", lengths)
	}
}
