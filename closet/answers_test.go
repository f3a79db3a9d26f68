package closet_test

import (
	"slices"
	"testing"

	"posser/api"
	"posser/closet"
)

const (
	always  = closet.Always
	never   = closet.Never
	perhaps = closet.Perhaps
)

// answers are what the calls return of closets that have a truth.
type answers struct {
	place               []int
	done                int // -1: no placement is good
	horse, minute, left int // -1, 0, 0: there is no horse
}

// hung are what the calls return of closets that have a truth, with a placement.
type hung struct {
	bounds, good []closet.Range
	stuck        int // -1: the placement is good
}

// ask calls all that needs a truth, but no placement.
func ask(t *testing.T, c closet.Closet) answers {
	t.Helper()
	var a answers
	var e api.Errno
	a.place, a.done, e = closet.Best(c)
	if e == api.ErrShort && len(a.place) == 0 && a.done == 0 {
		a.done, e = -1, api.OK
	}
	if e != api.OK {
		t.Fatalf("Best of %v: %v", c, e)
	}
	a.horse, a.minute, a.left, e = closet.Ask(c)
	if e == api.ErrNone && a.horse == 0 && a.minute == 0 && a.left == 0 && len(c.Horses) == 0 {
		a.horse, e = -1, api.OK
	}
	if e != api.OK {
		t.Fatalf("Ask of %v: %v", c, e)
	}
	return a
}

// hang calls all that needs a truth and a placement, but Right.
func hang(t *testing.T, c closet.Closet, place []int) hung {
	t.Helper()
	var h hung
	var e api.Errno
	if h.bounds, e = closet.Bounds(c, place); e != api.OK {
		t.Fatalf("Bounds of %v, %v: %v", c, place, e)
	}
	for n := range c.Horses {
		r, e := closet.Good(c, place, n)
		if e == api.ErrShort && r == (closet.Range{}) {
			r, e = none, api.OK
		}
		if e != api.OK {
			t.Fatalf("Good of %v, %v, %d: %v", c, place, n, e)
		}
		h.good = append(h.good, r)
	}
	h.stuck, e = closet.Stuck(c, place)
	if e == api.ErrNone && h.stuck == 0 {
		h.stuck, e = -1, api.OK
	}
	if e != api.OK {
		t.Fatalf("Stuck of %v, %v: %v", c, place, e)
	}
	return h
}

func right(t *testing.T, c closet.Closet, place []int, horse, minute int) int {
	t.Helper()
	v, e := closet.Right(c, place, horse, minute)
	if e != api.OK {
		t.Fatalf("Right of %v, %v, %d, %d: %v", c, place, horse, minute, e)
	}
	return v
}

func leave(t *testing.T, c closet.Closet) []int {
	t.Helper()
	l, e := closet.Leave(c)
	if e != api.OK {
		t.Fatalf("Leave of %v: %v", c, e)
	}
	return l
}

func play(t *testing.T, c closet.Closet, place, dry []int) []int {
	t.Helper()
	l, e := closet.Play(c, place, dry)
	if e != api.OK {
		t.Fatalf("Play of %v, %v, %v: %v", c, place, dry, e)
	}
	return l
}

// Each row of the chapter's table of examples, and the example 4 of the document.
func TestExamples(t *testing.T) {
	if n := len(truths(example())); n != 12 {
		t.Errorf("truths: %d", n)
	}
	if l := play(t, example(), list(0, 1), list(21, 33)); !slices.Equal(l, list(25, 36)) {
		t.Errorf("Play of 0, 1: %v", l)
	}
	if l := play(t, example(), list(0, 2), list(21, 33)); !slices.Equal(l, list(21, 33)) {
		t.Errorf("Play of 0, 2: %v", l)
	}
	if l := play(t, example(), list(0, 1), list(20, 30)); l[0] != 24 {
		t.Errorf("Play of 20 beside a Wet of 4: %v", l)
	}
	next, apart := hang(t, example(), list(0, 1)), hang(t, example(), list(2, 0))
	if !slices.Equal(next.bounds, ranges(24, 26, 33, 36)) || !slices.Equal(apart.bounds, ranges(20, 22, 30, 33)) {
		t.Errorf("Bounds: %v, %v", next.bounds, apart.bounds)
	}
	for minute, want := range map[int]int{25: perhaps, 27: always, 40: never} {
		if v := right(t, example(), list(0, 1), 0, minute); v != want {
			t.Errorf("Right of 0 in %d: %d", minute, v)
		}
	}
	if !slices.Equal(next.good, ranges(26, 29, 36, 37)) {
		t.Errorf("Good: %v", next.good)
	}
	two := example()
	two.Closets = 2
	if a := ask(t, example()); !slices.Equal(a.place, list(0, 2)) || a.done != 33 || a.horse != 1 || a.minute != 34 || a.left != 6 {
		t.Errorf("Best, Ask: %v", a)
	}
	if a := ask(t, two); !slices.Equal(a.place, list(0, 1)) || a.done != 36 {
		t.Errorf("Best with Closets 2: %v", a)
	}
	if _, e := closet.Stuck(example(), list(0, 2)); e != api.ErrNone {
		t.Errorf("Stuck of 0, 2: %v", e)
	}
	// The document does not say with which placement the horse 1 is stuck if its Grace is 2: both are.
	for _, place := range [][]int{list(0, 2), list(0, 1)} {
		if n, e := closet.Stuck(graced(2), place); n != 1 || e != api.OK {
			t.Errorf("Stuck of %v with Grace 2: %d, %v", place, n, e)
		}
	}
	if l, n, e := closet.Best(graced(2)); len(l) > 0 || n != 0 || e != api.ErrShort {
		t.Errorf("Best with Grace 2: %v, %d, %v", l, n, e)
	}
	if r, e := closet.Good(graced(2, dry(1, 35)), list(0, 1), 1); r != to(35, 35) || e != api.OK {
		t.Errorf("Good with Grace 2 and a look: %v, %v", r, e)
	}
	wrong := example(dry(1, 35), damp(1, 34), damp(1, 36))
	if n, e := closet.First(wrong); n != 2 || e != api.OK {
		t.Errorf("First: %d, %v", n, e)
	}
	if l := leave(t, wrong); !slices.Equal(l, list(2)) {
		t.Errorf("Leave: %v", l)
	}
}

// P4.1: CheckCloset accepts the closets, and Play and ProveTruth agree with the definitions for all placements and dry numbers.
func TestPlayAndProveTruth(t *testing.T) {
	is, isNot := 0, 0
	for _, c := range append(many(120), full()) {
		if e := closet.CheckCloset(c); e != api.OK {
			t.Fatalf("CheckCloset of %v: %v", c, e)
		}
		for n, numbers := range allDry(c) {
			want := areRight(c, numbers, 0)
			if closet.ProveTruth(c, numbers) != want {
				t.Fatalf("ProveTruth of %v, %v: %v", c, numbers, !want)
			}
			if want {
				is++
			} else {
				isNot++
			}
			for _, place := range placements(c) {
				if n%97 > 60 { // so that the full closets are soon done
					break
				}
				if l, e := closet.Play(c, place, numbers); !slices.Equal(l, dryMinutes(c, place, numbers)) || e != api.OK {
					t.Fatalf("Play of %v, %v, %v: %v, %v", c, place, numbers, l, e)
				}
			}
		}
	}
	if is < 500 || isNot < 500 {
		t.Errorf("the closets do not try enough: %d, %d", is, isNot)
	}
}

// P4.1: by hand.
func TestPlayAtItsEdges(t *testing.T) {
	four := row(horse(10, 10, 1, 0), horse(20, 20, 2, 0), horse(30, 30, 4, 0), horse(40, 40, 8, 0))
	two := row(horse(10, 10, 1, 0), horse(20, 20, 2, 0))
	two.Closets = 4
	for _, x := range []struct {
		c                closet.Closet
		place, dry, want []int
	}{
		{small(), nil, nil, nil},
		{alone(horse(1, 60, 9, 30), 0), list(0), list(60), list(60)}, // its own linen does not delay a horse
		{four, list(0, 1, 2, 3), list(10, 20, 30, 40), list(12, 25, 40, 44)},
		{four, list(3, 2, 1, 0), list(10, 20, 30, 40), list(12, 25, 40, 44)},
		{four, list(1, 0, 3, 2), list(10, 20, 30, 40), list(20, 21, 38, 45)},
		{four, list(0, 3, 1, 2), list(10, 20, 30, 40), list(14, 28, 39, 46)},
		{two, list(0, 3), list(10, 20), list(10, 20)},
		{two, list(0, 2), list(10, 20), list(10, 20)},
		{two, list(1, 3), list(10, 20), list(10, 20)},
		{two, list(2, 3), list(10, 20), list(12, 21)},
		{two, list(2, 1), list(10, 20), list(12, 21)},
		{row(horse(60, 60, 9, 0), horse(60, 60, 9, 0), horse(60, 60, 9, 0)), list(0, 1, 2), list(60, 60, 60), list(69, 78, 69)},
		{example(dry(1, 33)), list(0, 1), list(22, 33), list(26, 36)}, // not asked about looks
		{false2(), list(1, 0), list(20, 30), list(24, 33)},
	} {
		if l := play(t, x.c, x.place, x.dry); !slices.Equal(l, x.want) {
			t.Errorf("Play of %v, %v, %v: %v", x.c, x.place, x.dry, l)
		}
	}
}

// P4.1: what is a truth, by hand. Looks are asked about with Hung.
func TestProveTruthAtItsEdges(t *testing.T) {
	apart := example(dry(0, 21), damp(1, 31))
	apart.Hung = list(2, 0)
	bad := example()
	bad.Close = 100
	for _, x := range []struct {
		c    closet.Closet
		dry  []int
		want bool
	}{
		{small(), nil, true},
		{small(), list(0), false},
		{example(), list(20, 30), true},
		{example(), list(22, 33), true},
		{example(), list(23, 33), false},
		{example(), list(19, 33), false},
		{example(), list(22, 34), false},
		{example(), list(22), false},
		{example(), list(22, 33, 0), false},
		{example(), list(22, 33, 0, 0, 0), false},
		{example(), nil, false},
		{bad, list(22, 33), false},
		{example(dry(0, 25)), list(21, 30), true},
		{example(dry(0, 25)), list(22, 30), false},
		{example(dry(0, 24)), list(21, 30), false},
		{example(damp(0, 25)), list(22, 30), true},
		{example(damp(0, 25)), list(21, 30), false},
		{example(damp(1, 0)), list(20, 30), true},
		{example(dry(1, 0)), list(20, 30), false},
		{example(dry(1, 99)), list(20, 33), true}, // a look may come after Close
		{example(damp(1, 99)), list(20, 33), false},
		{example(dry(0, 25), damp(1, 34)), list(21, 32), true},
		{example(dry(0, 25), damp(1, 34)), list(22, 32), false},
		{example(dry(0, 25), damp(1, 34)), list(21, 31), false},
		{apart, list(21, 32), true},
		{apart, list(22, 32), false},
		{apart, list(21, 31), false},
		{false2(), list(20, 30), false},
	} {
		if is := closet.ProveTruth(x.c, x.dry); is != x.want {
			t.Errorf("ProveTruth of %v, %v: %v", x.c, x.dry, is)
		}
	}
}

// P4.2, P4.3: Bounds, Right, Good and Stuck are what the definitions say over all truths.
func TestAnswersOverAllTruths(t *testing.T) {
	seen, stuck := map[int]int{}, map[int]int{}
	for i, c := range append(truthful(250), full()) {
		places := placements(c)
		for _, place := range [][]int{c.Hung, places[0], places[(i*7)%len(places)]} {
			h, all := hang(t, c, place), played(c, place, truths(c))
			if len(h.bounds) != len(c.Horses) {
				t.Fatalf("Bounds of %v, %v: %v", c, place, h.bounds)
			}
			wantStuck := -1
			for n := range c.Horses {
				want := goodRange(c, all, n)
				if want == none && wantStuck < 0 {
					wantStuck = n
				}
				if h.bounds[n] != bounds(all, n) || h.good[n] != want {
					t.Errorf("Bounds, Good of %v, %v: %v; the horse %d has %v, %v", c, place, h, n, bounds(all, n), want)
				}
			}
			if h.stuck != wantStuck {
				t.Errorf("Stuck of %v, %v: %d, not %d", c, place, h.stuck, wantStuck)
			}
			stuck[wantStuck]++
		}
		all := played(c, places[i%len(places)], truths(c))
		for n := range c.Horses {
			for minute := i % 3; minute <= 99; minute += 1 + i%3 {
				want := verdict(c, all, n, minute)
				if v := right(t, c, places[i%len(places)], n, minute); v != want {
					t.Fatalf("Right of %v, %v, %d, %d: %d, not %d", c, places[i%len(places)], n, minute, v, want)
				}
				seen[want]++
			}
		}
	}
	if seen[always] < 500 || seen[never] < 500 || seen[perhaps] < 500 || stuck[-1] < 50 || stuck[0] < 50 || stuck[1] < 20 || stuck[2] < 5 {
		t.Errorf("the closets do not try enough: %v, %v", seen, stuck)
	}
}

// P4.2, P4.3: the good minutes of one horse, by hand, and what is right beside them.
func TestGoodAtItsEdges(t *testing.T) {
	for _, x := range []struct {
		c            closet.Closet
		bounds, good closet.Range
	}{
		{alone(horse(20, 20, 9, 0), 99), to(20, 20), to(20, 20)},
		{alone(horse(20, 20, 9, 0), 20), to(20, 20), to(20, 20)},
		{alone(horse(20, 20, 9, 0), 19), to(20, 20), none},
		{alone(horse(20, 20, 9, 3), 99), to(20, 20), to(20, 23)},
		{alone(horse(20, 20, 9, 3), 23), to(20, 20), to(20, 23)},
		{alone(horse(20, 20, 9, 3), 22), to(20, 20), to(20, 22)},
		{alone(horse(20, 23, 9, 3), 99), to(20, 23), to(23, 23)},
		{alone(horse(20, 24, 9, 3), 99), to(20, 24), none},
		{alone(horse(20, 24, 9, 3), 99, dry(0, 23)), to(20, 23), to(23, 23)},
		{alone(horse(20, 24, 9, 3), 99, damp(0, 20)), to(21, 24), to(24, 24)},
		{alone(horse(20, 24, 9, 3), 99, damp(0, 20), dry(0, 23)), to(21, 23), to(23, 24)},
		{alone(horse(60, 60, 0, 30), 99), to(60, 60), to(60, 90)},
		{alone(horse(1, 60, 0, 30), 99), to(1, 60), none},
		{alone(horse(30, 60, 0, 30), 99), to(30, 60), to(60, 60)},
		{alone(horse(1, 1, 0, 0), 1), to(1, 1), to(1, 1)},
		{alone(horse(1, 1, 0, 30), 0), to(1, 1), none},
	} {
		h := hang(t, x.c, list(0))
		if h.bounds[0] != x.bounds || h.good[0] != x.good || (h.stuck == 0) != (x.good == none) {
			t.Errorf("Bounds, Good, Stuck of %v: %v", x.c, h)
		}
	}
}

// P4.2: by hand. Close does not matter to what is right.
func TestRightAtItsEdges(t *testing.T) {
	far := row(horse(60, 60, 9, 0), horse(60, 60, 9, 30), horse(60, 60, 9, 0))
	for _, x := range []struct {
		c                   closet.Closet
		place               []int
		horse, minute, want int
	}{
		{alone(horse(20, 20, 9, 3), 0), list(0), 0, 19, never},
		{alone(horse(20, 20, 9, 3), 0), list(0), 0, 20, always},
		{alone(horse(20, 20, 9, 3), 0), list(0), 0, 23, always},
		{alone(horse(20, 20, 9, 3), 0), list(0), 0, 24, never},
		{alone(horse(20, 22, 9, 3), 99), list(0), 0, 19, never},
		{alone(horse(20, 22, 9, 3), 99), list(0), 0, 20, perhaps},
		{alone(horse(20, 22, 9, 3), 99), list(0), 0, 21, perhaps},
		{alone(horse(20, 22, 9, 3), 99), list(0), 0, 22, always},
		{alone(horse(20, 22, 9, 3), 99), list(0), 0, 23, always},
		{alone(horse(20, 22, 9, 3), 99), list(0), 0, 24, perhaps},
		{alone(horse(20, 22, 9, 3), 99), list(0), 0, 25, perhaps},
		{alone(horse(20, 22, 9, 3), 99), list(0), 0, 26, never},
		{alone(horse(20, 24, 9, 3), 99), list(0), 0, 22, perhaps}, // in each minute it is damp, or scorched, in some truth
		{alone(horse(20, 24, 9, 3), 99), list(0), 0, 23, perhaps},
		{alone(horse(20, 22, 9, 3), 99, dry(0, 20)), list(0), 0, 20, always},
		{alone(horse(20, 22, 9, 3), 99, damp(0, 20)), list(0), 0, 20, never},
		{alone(horse(20, 22, 9, 3), 99, dry(0, 20)), list(0), 0, 24, never},
		{far, list(0, 1, 2), 1, 77, never},
		{far, list(0, 1, 2), 1, 78, always},
		{far, list(0, 1, 2), 1, 99, always},
		{far, list(0, 1, 2), 0, 0, never},
		{far, list(0, 1, 2), 0, 69, always},
		{far, list(0, 1, 2), 0, 70, never},
		{far, list(1, 0, 2), 0, 78, always},
		{far, list(1, 0, 2), 1, 98, always},
		{far, list(1, 0, 2), 1, 99, always},
		{example(dry(1, 35)), list(0, 2), 1, 32, always}, // the look was made with Hung, in which the horse dries 3 minutes later
		{example(damp(1, 35)), list(0, 2), 1, 32, never},
	} {
		if v := right(t, x.c, x.place, x.horse, x.minute); v != x.want {
			t.Errorf("Right of %v, %v, %d, %d: %d", x.c, x.place, x.horse, x.minute, v)
		}
	}
}

// P4.4: Best and ProvePlace are what the definitions say of all placements.
func TestBestAndProvePlace(t *testing.T) {
	found, short := 0, 0
	for _, c := range append(truthful(250), full()) {
		all := truths(c)
		var want []int
		earliest := -1
		for _, place := range placements(c) {
			done := doneIn(c, place, all)
			if done >= 0 && (earliest < 0 || done < earliest) {
				want, earliest = place, done
			}
			for _, minute := range list(done-1, done, done+1, 0, 99) {
				if closet.ProvePlace(c, place, minute) != (done >= 0 && done <= minute) {
					t.Errorf("ProvePlace of %v, %v, %d, though it is done in %d", c, place, minute, done)
				}
			}
		}
		if a := ask(t, c); !slices.Equal(a.place, want) || a.done != earliest {
			t.Errorf("Best of %v: %v; not %v, %d", c, a, want, earliest)
		}
		if earliest >= 0 {
			found++
		} else {
			short++
		}
	}
	if found < 50 || short < 50 {
		t.Errorf("the closets do not try enough: %d, %d", found, short)
	}
}

// P4.4: by hand.
func TestBestAtItsEdges(t *testing.T) {
	same := row(horse(10, 10, 3, 0), horse(10, 10, 3, 0))
	apart := same
	apart.Closets = 3
	late := row(horse(40, 40, 0, 0), horse(10, 10, 0, 0), horse(20, 20, 0, 0)) // who waits for the horse 0 need not hurry
	one := row(horse(10, 10, 9, 0), horse(20, 20, 1, 0), horse(30, 30, 9, 0))
	for _, x := range []struct {
		c     closet.Closet
		place []int
		done  int
	}{
		{small(), nil, 0},
		{closet.Closet{Closets: 4, Close: 99}, nil, 0},
		{alone(horse(20, 20, 9, 0), 20), list(0), 20},
		{alone(horse(20, 20, 9, 0), 19), nil, -1},
		{alone(horse(20, 24, 9, 4), 24), list(0), 24},
		{alone(horse(20, 24, 9, 3), 99), nil, -1},
		{same, list(0, 1), 13},
		{apart, list(0, 2), 10},
		{late, list(0, 1, 2), 40},
		{one, list(0, 1, 2), 38},
		{row(horse(30, 30, 9, 0), horse(10, 10, 9, 0), horse(20, 20, 1, 0)), list(0, 2, 1), 38},
		{row(horse(30, 30, 9, 0), horse(20, 20, 9, 0), horse(10, 10, 1, 0)), list(0, 2, 1), 31},
		{row(horse(10, 10, 0, 0), horse(20, 20, 0, 0), horse(30, 30, 0, 0), horse(5, 5, 0, 0)), list(0, 1, 2, 3), 30},
		{closing(33), list(0, 2), 33},
		{closing(32), nil, -1},
		{closing(99), list(0, 2), 33},
		{graced(3), list(0, 2), 33},
		{graced(2), nil, -1},
		{graced(2, dry(1, 35)), list(0, 2), 32},
		{graced(2, damp(1, 33)), list(0, 2), 33},
	} {
		if a := ask(t, x.c); !slices.Equal(a.place, x.place) || a.done != x.done {
			t.Errorf("Best of %v: %v", x.c, a)
		}
	}
}

// P4.4: by hand.
func TestProvePlaceAtItsEdges(t *testing.T) {
	bad := example()
	bad.Close = -1
	for _, x := range []struct {
		c     closet.Closet
		place []int
		from  int // the least minute with which it is reported; -1: with none
	}{
		{small(), nil, 0},
		{small(), list(0), -1},
		{example(), list(0, 1), 36},
		{example(), list(1, 0), 36},
		{example(), list(0, 2), 33},
		{example(), list(2, 0), 33},
		{example(), list(0, 0), -1},
		{example(), list(0, 3), -1},
		{example(), list(-1, 1), -1},
		{example(), list(0), -1},
		{example(), list(0, 1, 2), -1},
		{example(), nil, -1},
		{graced(2), list(0, 1), -1},
		{graced(2, dry(1, 35)), list(0, 1), 35},
		{closing(35), list(0, 1), -1},
		{closing(35), list(0, 2), 33},
		{false2(), list(0, 1), -1},
		{bad, list(0, 1), -1},
	} {
		for minute := -1; minute <= 100; minute++ {
			if is := closet.ProvePlace(x.c, x.place, minute); is != (x.from >= 0 && minute >= x.from) {
				t.Errorf("ProvePlace of %v, %v, %d: %v", x.c, x.place, minute, is)
			}
		}
	}
}

// P4.5: Ask is what the definitions say of all horses and minutes.
func TestAsk(t *testing.T) {
	horses, sure := map[int]int{}, 0
	for _, c := range append(truthful(600), full()) {
		a, all := ask(t, c), truths(c)
		horse, minute, least := -1, 0, 0
		for n := range c.Horses {
			for m := range 100 {
				if left := leaves(c, all, n, m); horse < 0 || left < least {
					horse, minute, least = n, m, left
				}
			}
		}
		if a.horse != horse || a.minute != minute || a.left != least {
			t.Errorf("Ask of %v: %v; not %d, %d, %d", c, a, horse, minute, least)
		}
		horses[horse]++
		if least == len(all) {
			sure++
		}
	}
	if horses[0] < 20 || horses[1] < 20 || horses[2] < 5 || sure < 10 {
		t.Errorf("the closets do not try enough: %v, %d", horses, sure)
	}
}

// P4.5: by hand. Of several looks the first horse, and then the first minute, counts.
func TestAskAtItsEdges(t *testing.T) {
	three := row(horse(10, 12, 0, 0), horse(20, 21, 0, 0), horse(30, 31, 0, 0))
	hung := example()
	hung.Hung = list(2, 0)
	for _, x := range []struct {
		c                   closet.Closet
		horse, minute, left int
	}{
		{small(), -1, 0, 0},
		{alone(horse(20, 20, 0, 0), 99), 0, 0, 1},
		{alone(horse(60, 60, 0, 0), 0), 0, 0, 1},
		{alone(horse(20, 21, 0, 0), 99), 0, 20, 1},
		{alone(horse(20, 22, 0, 0), 99), 0, 20, 2},
		{alone(horse(20, 23, 0, 0), 99), 0, 21, 2},
		{alone(horse(20, 24, 0, 0), 99), 0, 21, 3},
		{alone(horse(20, 24, 0, 0), 99, damp(0, 20)), 0, 22, 2},
		{alone(horse(1, 60, 0, 0), 0), 0, 30, 30},
		{alone(horse(59, 60, 0, 0), 0), 0, 59, 1}, // a look may come after Close
		{three, 1, 20, 6},
		{row(horse(20, 21, 5, 0), horse(20, 21, 7, 0)), 0, 27, 2},
		{example(dry(0, 24)), 1, 34, 2},
		{example(damp(1, 35)), 0, 24, 2},
		{hung, 1, 31, 6},
	} {
		if a := ask(t, x.c); a.horse != x.horse || a.minute != x.minute || a.left != x.left {
			t.Errorf("Ask of %v: %v", x.c, a)
		}
	}
}

// P4.6: First and Leave are what the definitions say.
func TestFirstAndLeave(t *testing.T) {
	for _, c := range append(many(500), full()) {
		n := -1
		for i := range c.Looks {
			before := c
			before.Looks = c.Looks[:i+1]
			if len(truths(before)) == 0 {
				n = i
				break
			}
		}
		got, e := closet.First(c)
		if n < 0 && (got != 0 || e != api.ErrNone) || n >= 0 && (got != n || e != api.OK) {
			t.Errorf("First of %v: %d, %v; not %d", c, got, e, n)
		}
		all := sets(c)
		want := all[slices.IndexFunc(all, func(l []int) bool { return canLeave(c, l) })]
		if l := leave(t, c); !slices.Equal(l, want) {
			t.Errorf("Leave of %v: %v, not %v", c, l, want)
		}
	}
}

// P4.6: by hand.
func TestFirstAndLeaveAtTheirEdges(t *testing.T) {
	h := horse(20, 24, 0, 0)
	for _, x := range []struct {
		c     closet.Closet
		first int
		e     api.Errno
		leave []int
	}{
		{small(), 0, api.ErrNone, nil},
		{example(), 0, api.ErrNone, nil},
		{example(dry(1, 35), damp(1, 34)), 0, api.ErrNone, nil},
		{false2(), 1, api.OK, list(0)},
		{alone(h, 99, dry(0, 24), damp(0, 19)), 0, api.ErrNone, nil},
		{alone(h, 99, dry(0, 19)), 0, api.OK, list(0)},
		{alone(h, 99, damp(0, 24)), 0, api.OK, list(0)},
		{alone(h, 99, dry(0, 22), dry(0, 19)), 1, api.OK, list(1)},
		{alone(h, 99, dry(0, 22), damp(0, 22)), 1, api.OK, list(0)},
		{alone(h, 99, dry(0, 22), damp(0, 21)), 0, api.ErrNone, nil},
		{alone(h, 99, dry(0, 22), damp(0, 22), dry(0, 22)), 1, api.OK, list(1)},
		{alone(h, 99, dry(0, 22), damp(0, 22), damp(0, 22)), 1, api.OK, list(0)},
		{alone(h, 99, dry(0, 22), dry(0, 22), damp(0, 22), damp(0, 22)), 2, api.OK, list(0, 1)},
		{alone(h, 99, dry(0, 22), damp(0, 22), dry(0, 22), damp(0, 22), dry(0, 21)), 1, api.OK, list(1, 3)},
		{alone(h, 99, dry(0, 23), dry(0, 21), damp(0, 22), damp(0, 20), damp(0, 21)), 2, api.OK, list(1)},
		{alone(h, 0, dry(0, 0), dry(0, 0), dry(0, 0), dry(0, 0), dry(0, 0)), 0, api.OK, list(0, 1, 2, 3, 4)},
		{alone(h, 0, damp(0, 0), damp(0, 99), damp(0, 0), damp(0, 99), dry(0, 99)), 1, api.OK, list(1, 3)},
		{example(dry(0, 24), dry(1, 33), damp(1, 33), damp(0, 24)), 2, api.OK, list(0, 1)},
		{example(damp(0, 25), dry(1, 33), damp(1, 33), damp(0, 26)), 2, api.OK, list(1, 3)},
	} {
		if n, e := closet.First(x.c); n != x.first || e != x.e {
			t.Errorf("First of %v: %d, %v", x.c, n, e)
		}
		if l := leave(t, x.c); !slices.Equal(l, x.leave) {
			t.Errorf("Leave of %v: %v", x.c, l)
		}
	}
}
