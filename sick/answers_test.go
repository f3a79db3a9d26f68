package sick_test

import (
	"slices"
	"testing"

	"posser/api"
	"posser/sick"
)

const (
	always  = sick.Always
	never   = sick.Never
	perhaps = sick.Perhaps
)

// answers are what Carry and Whose return of a house that has a truth.
type answers struct{ carry, whose []int }

func ask(t *testing.T, h sick.House) answers {
	t.Helper()
	carry, e := sick.Carry(h)
	whose, f := sick.Whose(h)
	if e != api.OK || f != api.OK {
		t.Fatalf("Carry, Whose of %v: %v, %v", h, e, f)
	}
	return answers{carry, whose}
}

func play(t *testing.T, h sick.House, c sick.Course) []int {
	t.Helper()
	l, e := sick.Play(h, c)
	if e != api.OK {
		t.Fatalf("Play of %v, %v: %v", h, c, e)
	}
	return l
}

func fewest(t *testing.T, h sick.House, hour int) []int {
	t.Helper()
	l, e := sick.Boil(h, hour)
	if e != api.OK {
		t.Fatalf("Boil of %v, %d: %v", h, hour, e)
	}
	return l
}

// shortest returns the shortest order; ok is false if there is none.
func shortest(t *testing.T, h sick.House, hour int) (order []int, ok bool) {
	t.Helper()
	l, e := sick.Order(h, hour)
	if e != api.OK && (e != api.ErrShort || len(l) > 0) {
		t.Fatalf("Order of %v, %d: %v, %v", h, hour, l, e)
	}
	return l, e == api.OK
}

func leave(t *testing.T, h sick.House) []int {
	t.Helper()
	l, e := sick.Leave(h)
	if e != api.OK {
		t.Fatalf("Leave of %v: %v", h, e)
	}
	return l
}

// Each row of the chapter's table of examples.
func TestExamples(t *testing.T) {
	if all := truths(example()); len(all) != 12 {
		t.Errorf("truths: %v", all)
	}
	for _, x := range []struct{ hours, want []int }{{list(0, 1, 2), list(0, 1, 3, 4)}, {list(1, 0, 2), list(3, 4)}, {list(1, 1, 2), list(0, 1, 3, 4)}} {
		if l := play(t, example(), course(list(0, 0, 1, 2), x.hours)); !slices.Equal(l, x.want) {
			t.Errorf("Play with the hours %v: %v", x.hours, l)
		}
	}
	if a := ask(t, example()); !slices.Equal(a.carry, list(perhaps, perhaps, never, always, always)) || !slices.Equal(a.whose, list(0, 1)) {
		t.Errorf("Carry, Whose: %v", a)
	}
	for hour, want := range lists(list(3), list(0, 3, 4), list(0)) {
		if l := fewest(t, example(), hour); !slices.Equal(l, want) {
			t.Errorf("Boil in the hour %d: %v", hour, l)
		}
	}
	for hour, want := range lists(list(3), list(0, 0), list(0)) {
		if l, ok := shortest(t, example(), hour); !slices.Equal(l, want) || !ok {
			t.Errorf("Order from the hour %d: %v", hour, l)
		}
	}
	if a := ask(t, example(free(0))); !slices.Equal(a.carry, list(never, never, never, always, always)) {
		t.Errorf("Carry with a sign: %v", a)
	}
	if l := fewest(t, example(free(0)), 1); len(l) > 0 {
		t.Errorf("Boil with a sign: %v", l)
	}
	if n, e := sick.First(false2()); n != 1 || e != api.OK || !slices.Equal(leave(t, false2()), list(0)) {
		t.Errorf("First, Leave: %d, %v, %v", n, e, leave(t, false2()))
	}
	if a := ask(t, boiled(2)); len(a.whose) > 0 {
		t.Errorf("Whose with a boiling: %v", a)
	}
	if a := ask(t, boiled(1, 2)); !slices.Equal(a.whose, list(0)) {
		t.Errorf("Whose with a boiling, and another sick woman: %v", a)
	}
}

// Example 6 of the document: a tub that a sick woman's piece touched carries the sickness, until it is boiled.
func TestTub(t *testing.T) {
	h := plain(2, touch(0, 3, 0, 0), touch(3, 1, 2, 2))
	c := course(list(0, 1, 2), list(0, 2))
	if l := play(t, h, c); !slices.Equal(l, list(0, 1, 3)) {
		t.Errorf("Play: %v", l)
	}
	for hour, want := range lists(list(0, 1, 3), list(0), list(0)) { // in the hour 0 it is boiled before it is touched
		if l := play(t, with(h, boil(3, hour)), c); !slices.Equal(l, want) {
			t.Errorf("Play with the tub boiled in the hour %d: %v", hour, l)
		}
	}
}

// P6.1: CheckHouse accepts the houses, and Play and ProveTruth agree with the definitions for all courses.
func TestPlayAndProveTruth(t *testing.T) {
	is, isNot, long := 0, 0, 0
	for _, h := range append(many(500), full()) {
		if e := sick.CheckHouse(h); e != api.OK {
			t.Fatalf("CheckHouse of %v: %v", h, e)
		}
		for _, c := range allCourses(h) {
			want := played(h, c)
			if l := play(t, h, c); !slices.Equal(l, want) {
				t.Fatalf("Play of %v, %v: %v, not %v", h, c, l, want)
			}
			truth := len(wrong(h, c)) == 0
			if sick.ProveTruth(h, c) != truth {
				t.Fatalf("ProveTruth of %v, %v: %v", h, c, !truth)
			}
			if truth {
				is++
			} else {
				isNot++
			}
			if len(want) > 3 {
				long++
			}
		}
	}
	if is < 1000 || isNot < 1000 || long < 500 {
		t.Errorf("the houses do not try enough: %d, %d, %d", is, isNot, long)
	}
}

// P6.1: by hand, with the piece 0 of a sick woman, the pieces 1 and 2 of others, and the things 3 and 4.
func TestPlayAtItsEdges(t *testing.T) {
	alone := plain(1)
	alone.Sick = nil
	every := plain(1)
	every.Sick = list(0, 1, 2)
	for _, x := range []struct {
		name  string
		h     sick.House
		hours []int
		want  []int
	}{
		{"nothing", plain(0), nil, list(0)},
		{"nobody sick", alone, nil, nil},
		{"all sick", every, nil, list(0, 1, 2)},
		{"a touch", plain(0, touch(0, 3, 0, 0)), list(0), list(0, 3)},
		{"a touch the other way round", plain(0, touch(3, 0, 0, 0)), list(0), list(0, 3)},
		{"a touch of others", plain(0, touch(3, 1, 0, 0)), list(0), list(0)},
		{"touches in an hour, in their order", plain(0, touch(0, 3, 0, 0), touch(3, 1, 0, 0)), list(0, 0), list(0, 1, 3)},
		{"touches in an hour, against their order", plain(0, touch(3, 1, 0, 0), touch(0, 3, 0, 0)), list(0, 0), list(0, 3)},
		{"touches in hours, against their numbers", plain(1, touch(3, 1, 0, 1), touch(0, 3, 0, 1)), list(1, 0), list(0, 1, 3)},
		{"touches in hours, against them again", plain(1, touch(3, 1, 0, 1), touch(0, 3, 0, 1)), list(0, 1), list(0, 3)},
		{"a way through all", plain(3, touch(0, 4, 0, 0), touch(4, 3, 1, 1), touch(3, 2, 2, 2), touch(2, 1, 3, 3)), list(0, 1, 2, 3), list(0, 1, 2, 3, 4)},
		{"a boiling of what is sick", with(plain(0), boil(0, 0)), nil, nil},
		{"a boiling before the touches of its hour", with(plain(0, touch(0, 3, 0, 0)), boil(0, 0)), list(0), nil},
		{"a boiling of what is touched in its hour", with(plain(0, touch(0, 3, 0, 0)), boil(3, 0)), list(0), list(0, 3)},
		{"a boiling after the touch", with(plain(1, touch(0, 3, 0, 0)), boil(0, 1)), list(0), list(3)},
		{"boilings of both", with(plain(1, touch(0, 3, 0, 0)), boil(0, 1), boil(3, 1)), list(0), nil},
		{"the same boiling four times", with(plain(1, touch(0, 3, 0, 0)), boil(3, 1), boil(3, 1), boil(3, 1), boil(3, 1)), list(0), list(0)},
		{"a thing that is touched again", with(plain(2, touch(0, 3, 0, 0), touch(3, 0, 2, 2)), boil(0, 1)), list(0, 2), list(0, 3)},
		{"a thing that is boiled in two hours", with(plain(2, touch(0, 3, 0, 0), touch(3, 0, 1, 1)), boil(0, 1), boil(0, 2)), list(0, 1), list(3)},
		{"boilings in the last hours", with(plain(5, touch(0, 4, 5, 5), touch(4, 2, 5, 5)), boil(4, 5), boil(2, 5)), list(5, 5), list(0, 2, 4)},
		{"signs that are wrong", signed(plain(0, touch(0, 3, 0, 0)), free(0), carries(1)), list(0), list(0, 3)},
	} {
		if l := play(t, x.h, course(list(0, 1, 2), x.hours)); !slices.Equal(l, x.want) {
			t.Errorf("Play with %s: %v", x.name, l)
		}
	}
	if l := play(t, sick.House{}, course(nil, nil)); len(l) > 0 {
		t.Errorf("Play of nothing: %v", l)
	}
}

// P6.1: what is a truth, by hand.
func TestProveTruthAtItsEdges(t *testing.T) {
	bad := example()
	bad.Touches[2].B = 0
	for _, x := range []struct {
		h             sick.House
		owners, hours []int
		want          bool
	}{
		{example(), list(0, 0, 1, 2), list(0, 0, 2), true},
		{example(), list(0, 0, 1, 2), list(0, 0, 1), false},
		{example(), list(0, 0, 1, 2), list(0, 2, 2), false},
		{example(), list(0, 0, 1, 2), list(-1, 0, 2), false},
		{example(), list(0, 0, 1, 2), list(0, 0), false},
		{example(), list(0, 0, 1, 2), list(0, 0, 2, 0), false},
		{example(), list(0, 0, 0, 2), list(0, 0, 2), false}, // no truth of the Table
		{example(), list(0, 0, 1), list(0, 0, 2), false},
		{example(), nil, nil, false},
		{example(free(0)), list(0, 0, 1, 2), list(0, 0, 2), false},
		{example(free(0)), list(0, 0, 1, 2), list(1, 0, 2), true},
		{example(carries(0)), list(0, 0, 1, 2), list(1, 0, 2), false},
		{example(carries(0), carries(4), free(2)), list(0, 0, 1, 2), list(1, 1, 2), true},
		{example(carries(0), carries(4), carries(2)), list(0, 0, 1, 2), list(1, 1, 2), false},
		{signed(boiled(2), free(3), free(4)), list(0, 0, 1, 2), list(0, 0, 2), true},
		{signed(boiled(2), carries(3)), list(0, 0, 1, 2), list(0, 0, 2), false},
		{sick.House{}, nil, nil, true},
		{sick.House{}, list(0), nil, false},
		{sick.House{}, nil, list(0), false},
		{sick.House{Last: 6}, nil, nil, false},
		{sick.House{Last: -1}, nil, nil, false},
		{bad, list(0, 0, 1, 2), list(0, 0, 2), false},
	} {
		if is := sick.ProveTruth(x.h, course(x.owners, x.hours)); is != x.want {
			t.Errorf("ProveTruth of %v, %v, %v: %v", x.h, x.owners, x.hours, is)
		}
	}
}

// P6.2: Carry and Whose are what the definitions say over all truths.
func TestCarryAndWhose(t *testing.T) {
	verdicts, women := map[int]int{}, map[int]int{}
	for _, h := range append(truthful(600), full()) {
		all, a := truths(h), ask(t, h)
		if len(a.carry) != things(h) {
			t.Fatalf("Carry of %v: %v", h, a.carry)
		}
		for thing, v := range a.carry {
			want := verdict(h, all, thing)
			if v != want {
				t.Errorf("Carry of %v: %v; of the thing %d it is %d", h, a.carry, thing, want)
			}
			verdicts[want]++
		}
		var want []int
		for _, c := range all {
			want = append(want, caught(h, c)...)
		}
		slices.Sort(want)
		want = slices.Compact(want)
		if !slices.Equal(a.whose, want) {
			t.Errorf("Whose of %v: %v, not %v", h, a.whose, want)
		}
		women[len(want)]++
	}
	if verdicts[always] < 200 || verdicts[never] < 200 || verdicts[perhaps] < 200 || women[0] < 50 || women[1] < 50 || women[2] < 20 {
		t.Errorf("the houses do not try enough: %v, %v", verdicts, women)
	}
}

// P6.2: by hand.
func TestCarryAndWhoseAtTheirEdges(t *testing.T) {
	chain := plain(2, touch(0, 3, 0, 2), touch(3, 1, 0, 2))
	all := plain(1, touch(0, 1, 0, 1))
	all.Sick = list(0, 1, 2)
	for _, x := range []struct {
		h            sick.House
		carry, whose []int
	}{
		{sick.House{}, nil, nil},
		{sick.House{Others: 10}, slices.Repeat(list(never), 10), nil},
		{plain(0), list(always, never, never, never, never), nil},
		{plain(5, touch(0, 1, 0, 5)), list(always, always, never, never, never), list(1)},
		{chain, list(always, perhaps, never, always, never), list(1)},
		{signed(chain, free(1)), list(always, never, never, always, never), nil},
		{signed(chain, carries(1)), list(always, always, never, always, never), list(1)},
		{with(chain, boil(0, 1)), list(never, perhaps, never, perhaps, never), list(1)},
		{with(chain, boil(3, 2)), list(always, perhaps, never, perhaps, never), list(1)},
		{with(chain, boil(0, 0)), slices.Repeat(list(never), 5), nil},
		{with(chain, boil(1, 2), boil(3, 2)), list(always, perhaps, never, perhaps, never), list(1)},
		{all, list(always, always, always, never, never), nil},
		{with(all, boil(0, 0)), list(always, always, always, never, never), nil}, // the piece 1 of another sick woman touches it
		{example(carries(1)), list(always, always, never, always, always), list(0, 1)},
		{boiled(), slices.Repeat(list(never), 5), nil},
		{boiled(1, 2), slices.Repeat(list(perhaps), 5), list(0)},
	} {
		if a := ask(t, x.h); !slices.Equal(a.carry, x.carry) || !slices.Equal(a.whose, x.whose) {
			t.Errorf("Carry, Whose of %v: %v", x.h, a)
		}
	}
}

// P6.3: Boil and ProveBoil are what the definitions say of all things, in each hour.
func TestBoilAndProveBoil(t *testing.T) {
	lengths := map[int]int{}
	for i, h := range slices.Concat(truthful(50), catching(600)) {
		all := truths(h)
		for hour := range h.Last + 1 {
			if things(h) > 4 && (i+hour)%6 > 0 { // so that the test is soon done
				continue
			}
			var want []int
			found := false
			for _, l := range sets(things(h)) {
				is := safe(h, all, at(hour, l))
				if sick.ProveBoil(h, hour, l, len(l)) != is || is && (!sick.ProveBoil(h, hour, l, 99) || sick.ProveBoil(h, hour, l, len(l)-1)) {
					t.Errorf("ProveBoil of %v, %d, %v: not %v", h, hour, l, is)
				}
				if is && !found {
					want, found = l, true
				}
			}
			if l := fewest(t, h, hour); !slices.Equal(l, want) {
				t.Errorf("Boil of %v, %d: %v, not %v", h, hour, l, want)
			}
			lengths[len(want)]++
		}
	}
	if lengths[0] < 50 || lengths[1] < 50 || lengths[2] < 50 || lengths[3] < 20 {
		t.Errorf("the houses do not try enough: %v", lengths)
	}
}

// P6.4: Order and ProveOrder are what the definitions say of all orders, from each hour.
func TestOrderAndProveOrder(t *testing.T) {
	lengths := map[int]int{}
	for i, h := range slices.Concat(truthful(50), catching(600)) {
		all := truths(h)
		for hour := range h.Last + 1 {
			if things(h) > 4 && (i+hour)%6 > 0 { // so that the test is soon done
				continue
			}
			var want []int
			found := false
			for _, l := range orders(h, hour) {
				is := safe(h, all, from(hour, l))
				if sick.ProveOrder(h, hour, l, len(l)) != is || is && (!sick.ProveOrder(h, hour, l, 99) || sick.ProveOrder(h, hour, l, len(l)-1)) {
					t.Errorf("ProveOrder of %v, %d, %v: not %v", h, hour, l, is)
				}
				if is && !found {
					want, found = l, true
				}
			}
			l, ok := shortest(t, h, hour)
			if !slices.Equal(l, want) || ok != found {
				t.Errorf("Order of %v, %d: %v, %v; not %v, %v", h, hour, l, ok, want, found)
			}
			if found {
				lengths[len(want)]++
			} else {
				lengths[-1]++
			}
		}
	}
	if lengths[-1] < 50 || lengths[0] < 50 || lengths[1] < 50 || lengths[2] < 20 || lengths[3] < 5 {
		t.Errorf("the houses do not try enough: %v", lengths)
	}
}

// P6.3, P6.4: by hand.
func TestBoilAndOrderAtTheirEdges(t *testing.T) {
	three := plain(5, touch(0, 1, 3, 3), touch(0, 2, 3, 3), touch(0, 4, 0, 3))
	back := plain(5, touch(0, 4, 0, 2), touch(4, 0, 3, 3), touch(0, 1, 3, 3), touch(0, 2, 3, 3))
	late := plain(4, touch(0, 1, 0, 0), touch(0, 2, 0, 0), touch(0, 3, 0, 0))
	for _, x := range []struct {
		h     sick.House
		hour  int
		boil  []int
		order []int
		e     api.Errno
	}{
		{sick.House{}, 0, nil, nil, api.OK},
		{plain(5), 5, nil, nil, api.OK},
		{plain(0, touch(0, 1, 0, 0)), 0, list(0), list(0), api.OK},
		{plain(1, touch(0, 1, 0, 0)), 1, list(1), list(1), api.OK},
		{plain(1, touch(0, 1, 0, 1)), 0, list(0), list(0), api.OK},
		{plain(1, touch(0, 1, 0, 1)), 1, list(0, 1), nil, api.ErrShort}, // two orders of one each do not do it
		{plain(2, touch(0, 1, 0, 1)), 1, list(0, 1), list(0, 1), api.OK},
		{plain(2, touch(0, 3, 0, 1), touch(3, 1, 1, 2)), 0, list(0), list(0), api.OK},
		{plain(2, touch(0, 3, 0, 1), touch(3, 1, 1, 2)), 1, list(0, 3), nil, api.ErrShort},
		{plain(2, touch(0, 3, 0, 1), touch(3, 1, 1, 2)), 2, list(1, 3), nil, api.ErrShort},
		{three, 0, list(0), list(0), api.OK},
		{three, 3, list(0), list(0), api.OK},
		{three, 4, list(1, 2), list(1, 2), api.OK},
		{three, 5, list(1, 2), nil, api.ErrShort},
		{back, 0, list(0), list(0), api.OK},
		{back, 2, list(0, 4), list(0, 4), api.OK},
		{back, 3, list(0, 4), list(0, 1, 2), api.OK},
		{back, 4, list(1, 2), list(1, 2), api.OK},
		{with(three, boil(1, 5)), 5, list(2), list(2), api.OK},
		{with(three, boil(1, 5), boil(2, 5)), 0, nil, nil, api.OK},
		{late, 1, list(1, 2), list(1, 2), api.OK},
		{late, 3, list(1, 2), list(1, 2), api.OK},
		{late, 4, list(1, 2), nil, api.ErrShort},
		{plain(3, touch(0, 1, 1, 1), touch(0, 1, 2, 2), touch(0, 3, 0, 0)), 0, list(0), list(0), api.OK},
		{plain(3, touch(0, 1, 1, 1), touch(0, 1, 3, 3), touch(0, 3, 0, 0)), 3, list(0, 1), nil, api.ErrShort},
		{plain(3, touch(0, 1, 1, 1), touch(1, 2, 3, 3)), 2, list(1), list(1), api.OK},
		{plain(5, touch(0, 1, 1, 5), touch(0, 2, 1, 5)), 0, list(0), list(0), api.OK},
		{plain(5, touch(0, 1, 1, 4), touch(0, 2, 1, 4), touch(1, 4, 1, 4)), 3, list(0, 1, 2), list(0, 1, 2), api.OK},
		{example(free(0)), 0, nil, nil, api.OK},
		{boiled(1, 2), 1, list(0, 1), list(0, 1), api.OK},
		{boiled(1, 2), 2, list(0, 1), nil, api.ErrShort},
	} {
		if l := fewest(t, x.h, x.hour); !slices.Equal(l, x.boil) {
			t.Errorf("Boil of %v, %d: %v", x.h, x.hour, l)
		}
		if l, e := sick.Order(x.h, x.hour); !slices.Equal(l, x.order) || e != x.e {
			t.Errorf("Order of %v, %d: %v, %v", x.h, x.hour, l, e)
		}
	}
}

// P6.3: what ProveBoil accepts, by hand.
func TestProveBoilAtItsEdges(t *testing.T) {
	bad := example()
	bad.Others = -1
	for _, x := range []struct {
		h      sick.House
		hour   int
		things []int
		many   int
		want   bool
	}{
		{example(), 1, list(0, 3, 4), 3, true},
		{example(), 1, list(0, 3, 4), 99, true},
		{example(), 1, list(0, 3, 4), 2, false},
		{example(), 1, list(0, 1, 3, 4), 4, true},
		{example(), 1, list(0, 1, 2, 3, 4), 5, true},
		{example(), 1, list(0, 1, 2, 3, 4), 4, false},
		{example(), 1, list(0, 3), 3, false},
		{example(), 1, list(0, 4, 3), 3, false},
		{example(), 1, list(0, 3, 3, 4), 9, false},
		{example(), 1, list(0, 3, 4, 4), 9, false},
		{example(), 1, list(0, 3, 4, 5), 9, false},
		{example(), 1, list(-1, 0, 3, 4), 9, false},
		{example(), 1, nil, 9, false},
		{example(), 0, list(3), 1, true},
		{example(), 0, list(3), 0, false},
		{example(), -1, list(0, 1, 2, 3, 4), 9, false},
		{example(), 3, list(0, 1, 2, 3, 4), 9, false},
		{example(free(0)), 1, nil, 0, true},
		{example(free(0)), 1, nil, -1, false},
		{example(free(0)), 3, nil, 0, false},
		{false2(), 0, list(0, 1, 2, 3, 4), 9, false},
		{bad, 0, list(0, 1, 2, 3), 9, false},
		{sick.House{}, 0, nil, 0, true},
		{sick.House{}, 0, list(0), 1, false},
		{sick.House{}, 1, nil, 0, false},
	} {
		if is := sick.ProveBoil(x.h, x.hour, x.things, x.many); is != x.want {
			t.Errorf("ProveBoil of %v, %d, %v, %d: %v", x.h, x.hour, x.things, x.many, is)
		}
	}
}

// P6.4: what ProveOrder accepts, by hand.
func TestProveOrderAtItsEdges(t *testing.T) {
	long := plain(5, touch(0, 1, 5, 5))
	bad := example()
	bad.Last = 6
	for _, x := range []struct {
		h     sick.House
		hour  int
		order []int
		many  int
		want  bool
	}{
		{example(), 1, list(0, 0), 2, true},
		{example(), 1, list(4, 0), 2, true},
		{example(), 1, list(0, 4), 2, false},
		{example(), 1, list(0, 0), 1, false},
		{example(), 1, list(0), 2, false},
		{example(), 1, list(4, 0, 0), 9, false},
		{example(), 0, list(3, 3, 3), 3, true},
		{example(), 0, list(3, 3, 3), 2, false},
		{example(), 0, list(3, 5), 9, false},
		{example(), 0, list(3, -1), 9, false},
		{example(), 2, list(0), 1, true},
		{example(), 2, list(0, 0), 9, false},
		{example(), 3, nil, 9, false},
		{example(), 3, list(0), 9, false},
		{example(), -1, list(3, 3, 3), 9, false},
		{example(), -1, nil, 9, false},
		{long, 0, list(0, 0, 0), 3, true},
		{long, 0, list(0, 0, 0, 0), 9, false},
		{long, 3, list(1, 2, 0), 3, true},
		{long, 4, list(1, 0), 3, true},
		{long, 4, list(1, 0, 0), 3, false},
		{long, 5, list(0), 1, true},
		{long, 5, list(0, 0), 9, false},
		{long, 6, nil, 9, false},
		{example(free(0)), 2, nil, 0, true},
		{example(free(0)), 2, nil, -1, false},
		{false2(), 0, list(3, 0, 0), 9, false},
		{bad, 0, list(3, 0, 0), 9, false},
		{sick.House{}, 0, nil, 0, true},
		{sick.House{}, 0, list(0), 1, false},
	} {
		if is := sick.ProveOrder(x.h, x.hour, x.order, x.many); is != x.want {
			t.Errorf("ProveOrder of %v, %d, %v, %d: %v", x.h, x.hour, x.order, x.many, is)
		}
	}
}

// P6.5: First and Leave are what the definitions say.
func TestFirstAndLeave(t *testing.T) {
	firsts, lengths := map[int]int{}, map[int]int{}
	for _, h := range append(many(1500), full()) {
		n := -1
		for i := range h.Signs {
			if len(truths(before(h, i+1))) == 0 {
				n = i
				break
			}
		}
		got, e := sick.First(h)
		if n < 0 && (got != 0 || e != api.ErrNone) || n >= 0 && (got != n || e != api.OK) {
			t.Errorf("First of %v: %d, %v; not %d", h, got, e, n)
		}
		all := sets(len(h.Signs))
		want := all[slices.IndexFunc(all, func(l []int) bool { return canLeave(h, l) })]
		if l := leave(t, h); !slices.Equal(l, want) {
			t.Errorf("Leave of %v: %v, not %v", h, l, want)
		}
		firsts[n]++
		lengths[len(want)]++
	}
	if firsts[0] < 50 || firsts[1] < 20 || firsts[2] < 10 || lengths[0] < 100 || lengths[1] < 50 || lengths[2] < 10 {
		t.Errorf("the houses do not try enough: %v, %v", firsts, lengths)
	}
}

// P6.5: by hand.
func TestFirstAndLeaveAtTheirEdges(t *testing.T) {
	chain := plain(2, touch(0, 3, 0, 2), touch(3, 1, 0, 2))
	for _, x := range []struct {
		h     sick.House
		first int
		e     api.Errno
		leave []int
	}{
		{example(), 0, api.ErrNone, nil},
		{sick.House{}, 0, api.ErrNone, nil},
		{full(), 0, api.ErrNone, nil},
		{example(carries(0), carries(1), carries(3)), 0, api.ErrNone, nil},
		{example(free(4), carries(0)), 0, api.OK, list(0)},
		{example(carries(0), free(4)), 1, api.OK, list(1)},
		{example(carries(0), free(0)), 1, api.OK, list(0)},
		{example(free(0), carries(0), carries(1)), 1, api.OK, list(0)},
		{example(free(0), carries(0), free(1)), 1, api.OK, list(1)},
		{example(carries(2), carries(0), free(1)), 0, api.OK, list(0, 1)},
		{example(carries(2), free(3), free(4), free(3), carries(2)), 0, api.OK, list(0, 1, 2, 3, 4)},
		{signed(chain, free(1), carries(3), free(0)), 2, api.OK, list(2)},
		{signed(chain, carries(1), free(1), carries(1), free(1)), 1, api.OK, list(0, 2)},
		{signed(with(chain, boil(0, 0)), carries(0)), 0, api.OK, list(0)},
		{signed(with(chain, boil(0, 0)), free(0), free(1), free(3)), 0, api.ErrNone, nil},
		{signed(with(chain, boil(0, 1)), carries(1), free(3)), 1, api.OK, list(0)},
		{signed(with(chain, boil(3, 2)), carries(1), free(3)), 0, api.ErrNone, nil},
	} {
		if n, e := sick.First(x.h); n != x.first || e != x.e {
			t.Errorf("First of %v: %d, %v", x.h, n, e)
		}
		if l := leave(t, x.h); !slices.Equal(l, x.leave) {
			t.Errorf("Leave of %v: %v", x.h, l)
		}
	}
}
