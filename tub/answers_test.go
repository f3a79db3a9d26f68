package tub_test

import (
	"slices"
	"testing"

	"posser/api"
	"posser/tub"
)

// answers are what the calls return of a floor that gives out a tub.
type answers struct {
	tubs   []int
	from   []tub.Range
	best   []int
	ending int
	most   []int
	admit  int
	more   int
}

func ask(t *testing.T, f tub.Floor) answers {
	t.Helper()
	var a answers
	var e [5]api.Errno
	a.tubs, a.from, e[0] = tub.Given(f)
	a.best, a.ending, e[1] = tub.Best(f)
	a.most, e[2] = tub.Most(f)
	a.admit, e[3] = tub.Admit(f)
	a.more, e[4] = tub.More(f)
	if e != [5]api.Errno{} {
		t.Fatalf("Given, Best, Most, Admit, More of %v: %v", f, e)
	}
	return a
}

func play(t *testing.T, f tub.Floor, x tub.Truth, order []int) (tubs, done []int) {
	t.Helper()
	tubs, done, e := tub.Play(f, x, order)
	if e != api.OK || len(tubs) != len(order) || len(done) != len(order) {
		t.Fatalf("Play of %v, %v, %v: %v, %v, %v", f, x, order, tubs, done, e)
	}
	return tubs, done
}

func bounds(t *testing.T, f tub.Floor, order []int) []tub.Range {
	t.Helper()
	l, e := tub.Ends(f, order)
	if e != api.OK || len(l) != len(order) {
		t.Fatalf("Ends of %v, %v: %v, %v", f, order, l, e)
	}
	return l
}

// late returns the first woman who may be late, or -1.
func late(t *testing.T, f tub.Floor, order []int) int {
	t.Helper()
	n, e := tub.Late(f, order)
	if e != api.OK && (e != api.ErrNone || n != 0) {
		t.Fatalf("Late of %v, %v: %d, %v", f, order, n, e)
	}
	if e == api.ErrNone {
		return -1
	}
	return n
}

// Each row of the chapter's table of examples.
func TestExamples(t *testing.T) {
	a := ask(t, example())
	if !slices.Equal(a.tubs, list(0, 1)) || !slices.Equal(a.from, ranges(483, 487, 480, 480)) {
		t.Errorf("Given: %v", a)
	}
	tubs, done := play(t, example(), tub.Truth{From: list(485, 480), Minutes: list(45, 25, 30)}, list(0, 1, 2))
	if !slices.Equal(tubs, list(1, 0, 0)) || !slices.Equal(done, list(525, 510, 540)) {
		t.Errorf("Play: %v, %v", tubs, done)
	}
	if l := bounds(t, example(), list(0, 1, 2)); !slices.Equal(l, ranges(520, 530, 503, 517, 533, 557)) {
		t.Errorf("Ends in the order 0, 1, 2: %v", l)
	}
	if l := bounds(t, example(), list(2, 1)); !slices.Equal(l, ranges(510, 520, 503, 517)) {
		t.Errorf("Ends in the order 2, 1: %v", l)
	}
	if n, e := tub.Late(example(), list(0, 1, 2)); n != 0 || e != api.ErrNone {
		t.Errorf("Late: %d, %v", n, e)
	}
	if n, e := tub.Late(changed(2, 556), list(0, 1, 2)); n != 2 || e != api.OK {
		t.Errorf("Late with Closing 556: %d, %v", n, e)
	}
	if !slices.Equal(a.best, list(1, 0, 2)) || a.ending != 550 || a.more != 20 {
		t.Errorf("Best, More: %v", a)
	}
	if a := ask(t, changed(2, 540)); !slices.Equal(a.most, list(0, 1)) || a.admit != 2 {
		t.Errorf("Most, Admit with Closing 540: %v", a)
	}
	if a := ask(t, changed(2, 519)); !slices.Equal(a.most, list(1)) || a.admit != 0 {
		t.Errorf("Most, Admit with Closing 519: %v", a)
	}
	if a := ask(t, changed(3, 560)); !slices.Equal(a.tubs, list(0, 1, 2)) || !slices.Equal(a.from, ranges(483, 487, 480, 480, 480, 480)) || a.admit != 3 {
		t.Errorf("Given, Admit with Tubs 3: %v", a)
	}
}

// Example 7 of the document: of two tubs that are free at the same time the next woman gets the one with the smaller number.
func TestSmallerNumber(t *testing.T) {
	tubs, done := play(t, plain(2, 200, 20, 30), tub.Truth{From: list(100, 100), Minutes: list(20, 30)}, list(1, 0))
	if !slices.Equal(tubs, list(0, 1)) || !slices.Equal(done, list(130, 120)) {
		t.Errorf("Play: %v, %v", tubs, done)
	}
}

// P7.1: CheckFloor accepts the floors, and Given agrees with the definitions.
func TestGiven(t *testing.T) {
	tubs, kinds := map[int]int{}, map[string]int{}
	for _, f := range append(many(2000), full()) {
		if e := tub.CheckFloor(f); e != api.OK {
			t.Fatalf("CheckFloor of %v: %v", f, e)
		}
		want, from := givenTubs(f), freeRanges(f)
		l, r, e := tub.Given(f)
		if !slices.Equal(l, want) || !slices.Equal(r, from) || (e == api.ErrState) != (len(want) == 0) || e != api.OK && e != api.ErrState {
			t.Errorf("Given of %v: %v, %v, %v; not %v, %v", f, l, r, e, want, from)
		}
		tubs[len(want)]++
		for _, x := range from {
			switch {
			case x.Lo > f.Open:
				kinds["later"]++
			case x.Hi > f.Open:
				kinds["perhaps later"]++
			default:
				kinds["at once"]++
			}
			if x.Lo < x.Hi {
				kinds["not known"]++
			}
		}
	}
	if tubs[0] < 50 || tubs[1] < 100 || tubs[2] < 100 || tubs[3] < 100 || tubs[4] < 50 || kinds["later"] < 200 || kinds["perhaps later"] < 50 || kinds["at once"] < 200 || kinds["not known"] < 200 {
		t.Errorf("the floors do not try enough: %v, %v", tubs, kinds)
	}
}

// P7.1: by hand.
func TestGivenAtItsEdges(t *testing.T) {
	f := example()
	f.Open = 485
	late := example()
	late.Open = 488
	early := example()
	early.Open = 483
	zero := clipped(0, nil, 0)
	after := example() // the House's last clip, of a ticket of another tub, is known to be later
	after.House.Tickets, after.House.Clips = append(after.House.Tickets, after.House.Tickets[0]), append(after.House.Clips, clip(2, 0, 486))
	after.House.Tickets[2].Tub = 1
	other := copied(after)
	other.House.Tickets[2].Tub = 2
	gone := copied(after)
	gone.House.Clips = append(gone.House.Clips, clip(2, 1, 500))
	for _, x := range []struct {
		name string
		f    tub.Floor
		tubs []int
		from []tub.Range
		e    api.Errno
	}{
		{"one that opens within the range", f, list(0, 1), ranges(485, 487, 485, 485), api.OK},
		{"one that opens after the range", late, list(0, 1), ranges(488, 488, 488, 488), api.OK},
		{"one that opens with the range", early, list(0, 1), ranges(483, 487, 483, 483), api.OK},
		{"one tub", changed(1, 560), list(0), ranges(483, 487), api.OK},
		{"four tubs", changed(4, 560), list(0, 1, 2, 3), ranges(483, 487, 480, 480, 480, 480, 480, 480), api.OK},
		{"the minute 0", zero, list(0), ranges(0, 0), api.OK},
		{"a tub in use", after, list(0), ranges(483, 486), api.OK},
		{"a tub in use that is none of the floor", other, list(0, 1), ranges(483, 486, 480, 480), api.OK},
		{"a tub that is in use no more", gone, list(0, 1), ranges(483, 486, 495, 498), api.OK},
		{"all tubs in use", inUse(), nil, nil, api.ErrState},
		{"the first tub in use", clipped(9, nil, -1, 5), list(1), ranges(5, 5), api.OK},
		{"tubs in use beside others", clipped(9, nil, 3, -1, 7, -1), list(0, 2), ranges(3, 3, 7, 7), api.OK},
		{"a tub that is free after Closing", clipped(9, nil, 12, 1000), list(0, 1), ranges(12, 12, 1000, 1000), api.OK},
	} {
		if l, r, e := tub.Given(x.f); !slices.Equal(l, x.tubs) || !slices.Equal(r, x.from) || e != x.e {
			t.Errorf("Given with %s: %v, %v, %v", x.name, l, r, e)
		}
	}
}

// P7.2: Play agrees with the definitions in all truths and orders.
func TestPlay(t *testing.T) {
	equal, waits := 0, 0
	for i, f := range append(given(250), full()) {
		all, given := some(f, 60), givenTubs(f)
		for n, order := range allOrders(f) {
			if len(order) > 3 && (n+i)%5 > 0 { // so that the test is soon done
				continue
			}
			for m, x := range all {
				if len(all) > 100 && (n+m)%40 > 0 {
					continue
				}
				places, want := played(x, order)
				tubs, done := play(t, f, x, order)
				for n, place := range places {
					if tubs[n] != given[place] {
						t.Fatalf("Play of %v, %v, %v: %v, not %v of %v", f, x, order, tubs, places, given)
					}
				}
				if !slices.Equal(done, want) {
					t.Fatalf("Play of %v, %v, %v: %v, not %v", f, x, order, done, want)
				}
				if len(order) > len(x.From) {
					waits++
				}
				if len(slices.Compact(slices.Sorted(slices.Values(x.From)))) < len(x.From) {
					equal++
				}
			}
		}
	}
	if equal < 1000 || waits < 1000 {
		t.Errorf("the floors do not try enough: %d, %d", equal, waits)
	}
}

// P7.2: by hand.
func TestPlayAtItsEdges(t *testing.T) {
	for _, x := range []struct {
		name                 string
		f                    tub.Floor
		from, minutes, order []int
		tubs, done           []int
	}{
		{"nobody", plain(2, 200), list(100, 100), nil, nil, nil, nil},
		{"nobody of the queue", plain(2, 200, 5), list(100, 100), list(5), nil, nil, nil},
		{"one woman", plain(2, 200, 5), list(100, 100), list(5), list(0), list(0), list(105)},
		{"a woman of several", plain(2, 200, 5, 6, 7), list(100, 100), list(5, 6, 7), list(2), list(0), list(107)},
		{"as many women as tubs", plain(3, 200, 5, 6, 7), list(100, 100, 100), list(5, 6, 7), list(2, 0, 1), list(0, 1, 2), list(107, 105, 106)},
		{"more women than tubs", plain(2, 200, 5, 6, 7, 8, 9), list(100, 100), list(5, 6, 7, 8, 9), list(0, 1, 2, 3, 4), list(0, 1, 0, 1, 0), list(105, 106, 112, 114, 121)},
		{"tubs that become free in the same minute", plain(2, 200, 5, 5, 7), list(100, 100), list(5, 5, 7), list(0, 1, 2), list(0, 1, 0), list(105, 105, 112)},
		{"the greater number free earlier", plain(2, 200, 7, 6, 1), list(100, 100), list(7, 6, 1), list(0, 1, 2), list(0, 1, 1), list(107, 106, 107)},
		{"women who wash for no time", plain(2, 200, 0, 0, 0), list(100, 100), list(0, 0, 0), list(0, 2, 1), list(0, 0, 0), list(100, 100, 100)},
		{"a woman who washes for no time at the tub of another one", plain(2, 200, 5, 9, 0), list(100, 100), list(5, 9, 0), list(1, 0, 2), list(0, 1, 1), list(109, 105, 105)},
		{"tubs that are free in different minutes", clipped(30, ranges(5, 5, 9, 9), 20, 10), list(20, 10), list(5, 9), list(0, 1), list(1, 1), list(15, 24)},
		{"a tub that is free when the other one is again", clipped(30, ranges(5, 5, 9, 9), 15, 10), list(15, 10), list(5, 9), list(0, 1), list(1, 0), list(15, 24)},
		{"tubs in use", clipped(30, ranges(5, 5, 9, 9, 1, 1), -1, 10, -1, 12), list(10, 12), list(5, 9, 1), list(0, 1, 2), list(1, 3, 1), list(15, 21, 16)},
		{"the only tub that is not in use", clipped(30, ranges(5, 5, 9, 9), -1, -1, -1, 12), list(12), list(5, 9), list(1, 0), list(3, 3), list(21, 26)},
		{"women who are done after Closing", plain(1, 100, 240, 240, 240, 240, 240), list(100), list(240, 240, 240, 240, 240), list(4, 3, 2, 1, 0), list(0, 0, 0, 0, 0), list(340, 580, 820, 1060, 1300)},
		{"the greatest numbers", full(), list(451, 572, 1411, 430), list(240, 240, 0, 100, 239), list(0, 1, 2, 3, 4), list(3, 0, 1, 1, 3), list(670, 691, 572, 672, 909)},
	} {
		tubs, done := play(t, x.f, tub.Truth{From: x.from, Minutes: x.minutes}, x.order)
		if !slices.Equal(tubs, x.tubs) || !slices.Equal(done, x.done) {
			t.Errorf("Play with %s: %v, %v", x.name, tubs, done)
		}
	}
}

// P7.3: Ends and Late are what the definitions say over all truths, for all orders.
func TestEndsAndLate(t *testing.T) {
	firsts := map[int]int{}
	for _, f := range append(given(250), full()) {
		all := some(f, 60)
		for n, order := range allOrders(f) {
			if len(all) > 100 && n%10 > 0 { // so that the test is soon done
				continue
			}
			var want []tub.Range
			for _, x := range all {
				_, done := played(x, order)
				for n, minute := range done {
					if len(want) < len(order) {
						want = append(want, to(minute, minute))
					}
					want[n] = to(min(want[n].Lo, minute), max(want[n].Hi, minute))
				}
			}
			first := slices.IndexFunc(want, func(r tub.Range) bool { return r.Hi > f.Closing })
			firsts[first]++
			if l := bounds(t, f, order); !slices.Equal(l, want) {
				t.Fatalf("Ends of %v, %v: %v, not %v", f, order, l, want)
			}
			if n := late(t, f, order); first < 0 && n != -1 || first >= 0 && n != order[first] {
				t.Fatalf("Late of %v, %v: %d of %v", f, order, n, want)
			}
		}
	}
	if firsts[-1] < 1000 || firsts[0] < 1000 || firsts[1] < 1000 || firsts[2] < 1000 || firsts[3] < 1000 || firsts[4] < 500 {
		t.Errorf("the floors do not try enough: %v", firsts)
	}
}

// P7.3: by hand.
func TestEndsAndLateAtTheirEdges(t *testing.T) {
	wide := tub.Floor{House: plain(2, 0).House, Tubs: 2, Open: 100, Closing: 130, Queue: ranges(0, 30, 10, 20, 5, 5)}
	for _, x := range []struct {
		f     tub.Floor
		order []int
		want  []tub.Range
		late  int
	}{
		{wide, nil, nil, -1},
		{wide, list(0, 1, 2), ranges(100, 130, 110, 120, 105, 125), -1},
		{wide, list(2, 1, 0), ranges(105, 105, 110, 120, 105, 135), 0},
		{wide, list(1, 0), ranges(110, 120, 100, 130), -1},
		{wide, list(1, 2, 0), ranges(110, 120, 105, 105, 105, 135), 0},
		{plain(1, 100), nil, nil, -1},
		{plain(1, 100, 0), list(0), ranges(100, 100), -1},
		{plain(1, 100, 1), nil, nil, -1},
		{plain(1, 100, 1), list(0), ranges(101, 101), 0},
		{plain(1, 119, 20, 5), list(0, 1), ranges(120, 120, 125, 125), 0},
		{plain(1, 120, 20, 5), list(0, 1), ranges(120, 120, 125, 125), 1},
		{plain(2, 119, 20, 5, 3), list(1, 0, 2), ranges(105, 105, 120, 120, 108, 108), 0}, // later ones are done before
		{plain(2, 119, 20, 5, 3), list(1, 2, 0), ranges(105, 105, 103, 103, 123, 123), 0},
		{clipped(30, ranges(0, 0), 31), list(0), ranges(31, 31), 0},
		{clipped(30, ranges(0, 0), 31), nil, nil, -1},
		{clipped(30, ranges(0, 0), 30), list(0), ranges(30, 30), -1},
		{clipped(30, ranges(2, 3), -1, 28), list(0), ranges(30, 31), 0},
		{full(), list(0, 1), ranges(430, 670, 670, 691), -1},
		{full(), list(1, 0), ranges(670, 670, 447, 691), -1},
		{full(), list(2, 3, 4), ranges(430, 430, 447, 530, 547, 690), -1},
	} {
		if l := bounds(t, x.f, x.order); !slices.Equal(l, x.want) {
			t.Errorf("Ends of %v, %v: %v", x.f, x.order, l)
		}
		if n := late(t, x.f, x.order); n != x.late {
			t.Errorf("Late of %v, %v: %d", x.f, x.order, n)
		}
	}
}

// P7.4: Best and ProveOrder are what the definitions say of all orders, over all truths.
func TestBestAndProveOrder(t *testing.T) {
	women, later := map[int]int{}, 0
	for _, f := range append(given(500), full()) {
		all := some(f, 60)
		order, minute := best(f, all)
		if a := ask(t, f); !slices.Equal(a.best, order) || a.ending != minute {
			t.Errorf("Best of %v: %v; not %v, %d", f, a, order, minute)
		}
		women[len(order)]++
		if !slices.IsSorted(order) {
			later++
		}
		for n, l := range allOrders(f) {
			if len(all) > 100 && n%10 > 0 { // so that the test is soon done
				continue
			}
			n, isAll := ending(f, all, l), len(l) == len(f.Queue)
			if tub.ProveOrder(f, l, n) != isAll || tub.ProveOrder(f, l, n+9) != isAll || tub.ProveOrder(f, l, n-1) {
				t.Errorf("ProveOrder of %v, %v, %d", f, l, n)
			}
		}
	}
	if women[0] < 5 || women[1] < 20 || women[2] < 20 || women[3] < 20 || women[4] < 20 || women[5] < 20 || later < 50 {
		t.Errorf("the floors do not try enough: %v, %d", women, later)
	}
}

// P7.4: by hand.
func TestBestAtItsEdges(t *testing.T) {
	for _, x := range []struct {
		f      tub.Floor
		order  []int
		ending int
	}{
		{plain(1, 100), nil, 100},
		{plain(4, 1439), nil, 100},
		{plain(1, 100, 0), list(0), 100},
		{plain(1, 100, 7, 8), list(0, 1), 115},
		{plain(2, 100, 7, 8), list(0, 1), 108},
		{plain(2, 100, 7, 8, 9), list(0, 2, 1), 115},
		{plain(2, 100, 1, 1, 2), list(0, 2, 1), 102},
		{plain(2, 100, 1, 2, 3), list(0, 2, 1), 103},
		{plain(2, 100, 1, 2, 3, 3, 3), list(0, 2, 1, 3, 4), 106},
		{plain(2, 100, 3, 3, 2, 2, 2), list(0, 2, 3, 1, 4), 106},
		{plain(2, 100, 2, 2, 2, 3, 3), list(0, 3, 1, 4, 2), 106},
		{plain(2, 100, 5, 5, 5, 5, 0), list(0, 1, 2, 3, 4), 110},
		{plain(3, 100, 4, 1, 1, 1, 1), list(0, 1, 2, 3, 4), 104},
		{plain(3, 100, 1, 1, 1, 1, 4), list(0, 1, 4, 2, 3), 104},
		{plain(4, 100, 6, 6, 6, 6, 6), list(0, 1, 2, 3, 4), 112},
		{clipped(9, ranges(1, 1, 5, 5), 10, 14), list(1, 0), 15},
		{clipped(9, ranges(5, 5, 1, 1), 10, 14), list(0, 1), 15},
		{clipped(9, ranges(5, 5, 1, 1), 10, -1, 14), list(0, 1), 15},
		{clipped(9, ranges(5, 5, 1, 1), 10, -1), list(0, 1), 16},
		{clipped(1439, nil, 1000), nil, 0}, // Open, whenever the tubs are free
	} {
		a := ask(t, x.f)
		if !slices.Equal(a.best, x.order) || a.ending != x.ending {
			t.Errorf("Best of %v: %v, %d", x.f, a.best, a.ending)
		}
		if !tub.ProveOrder(x.f, x.order, x.ending) || tub.ProveOrder(x.f, x.order, x.ending-1) {
			t.Errorf("ProveOrder of %v, %v, %d", x.f, x.order, x.ending)
		}
	}
}

// P7.4: what ProveOrder accepts, by hand.
func TestProveOrderAtItsEdges(t *testing.T) {
	bad := example()
	bad.Open = 561
	for _, x := range []struct {
		f      tub.Floor
		order  []int
		ending int
		want   bool
	}{
		{example(), list(1, 0, 2), 550, true},
		{example(), list(1, 0, 2), 549, false},
		{example(), list(1, 0, 2), 1 << 62, true},
		{example(), list(1, 0, 2), -1 << 62, false},
		{example(), list(2, 1, 0), 567, true},
		{example(), list(2, 1, 0), 566, false},
		{changed(2, 500), list(2, 1, 0), 567, true}, // whenever it closes
		{example(), list(1, 0), 999, false},
		{example(), list(1, 0, 2, 1), 999, false},
		{example(), list(1, 0, 0), 999, false},
		{example(), list(1, 0, 3), 999, false},
		{example(), list(-1, 0, 1), 999, false},
		{example(), nil, 999, false},
		{plain(1, 100), nil, 100, true},
		{plain(1, 100), nil, 99, false},
		{plain(1, 100), list(0), 100, false},
		{inUse(), list(0, 1), 999, false},
		{inUse(), nil, 999, false},
		{bad, list(1, 0, 2), 999, false},
		{tub.Floor{}, nil, 999, false},
	} {
		if is := tub.ProveOrder(x.f, x.order, x.ending); is != x.want {
			t.Errorf("ProveOrder of %v, %v, %d: %v", x.f, x.order, x.ending, is)
		}
	}
}

// P7.5: Most and Admit are what the definitions say of all orders, over all truths.
func TestMostAndAdmit(t *testing.T) {
	lengths, admits, exchanged := map[int]int{}, map[int]int{}, 0
	for _, f := range append(given(300), full()) {
		all := some(f, 60)
		order, many := most(f, all), admitted(f, all)
		if a := ask(t, f); !slices.Equal(a.most, order) || a.admit != many {
			t.Errorf("Most, Admit of %v: %v; not %v, %d", f, a, order, many)
		}
		lengths[len(order)]++
		admits[many]++
		if !slices.Equal(order, queued(many)) {
			exchanged++
		}
	}
	if lengths[0] < 10 || lengths[1] < 20 || lengths[2] < 20 || lengths[3] < 20 || lengths[4] < 20 || lengths[5] < 5 || admits[0] < 20 || admits[1] < 20 || admits[2] < 20 || admits[3] < 20 || admits[4] < 5 || exchanged < 50 {
		t.Errorf("the floors do not try enough: %v, %v, %d", lengths, admits, exchanged)
	}
}

// P7.5: by hand.
func TestMostAndAdmitAtTheirEdges(t *testing.T) {
	for _, x := range []struct {
		f     tub.Floor
		most  []int
		admit int
	}{
		{plain(1, 100), nil, 0},
		{plain(1, 100, 0, 0), list(0, 1), 2},
		{plain(1, 100, 1, 0), list(1), 0},
		{plain(1, 100, 1, 1), nil, 0},
		{plain(1, 109, 4, 5, 6), list(0, 1), 2},
		{plain(1, 108, 4, 5, 6), list(0), 1},
		{plain(1, 110, 9, 4, 6), list(1, 2), 1},
		{plain(1, 110, 9, 6, 4), list(1, 2), 1},
		{plain(2, 110, 9, 6, 4), list(0, 1, 2), 3},
		{plain(2, 109, 6, 4, 5), list(0, 1, 2), 3},
		{plain(2, 109, 4, 5, 6), list(0, 2, 1), 2},
		{plain(2, 110, 1, 11, 2, 11, 3), list(0, 2, 4), 1},
		{plain(2, 110, 2, 3, 11), list(0, 1), 2},
		{clipped(30, ranges(1, 1), 31), nil, 0},
		{clipped(30, ranges(0, 0), 31), nil, 0},
		{clipped(30, ranges(0, 0, 1, 1), 31, 30), list(0), 1},
		{clipped(30, ranges(4, 9, 5, 6, 6, 6), 20, 19), list(0, 1), 2},
		{clipped(30, ranges(4, 9, 5, 6, 6, 6), 18, 19), list(1, 0, 2), 2},
	} {
		if a := ask(t, x.f); !slices.Equal(a.most, x.most) || a.admit != x.admit {
			t.Errorf("Most, Admit of %v: %v, %d", x.f, a.most, a.admit)
		}
	}
}

// P7.6: More is what the definitions say over all truths.
func TestMore(t *testing.T) {
	counts, changes := map[bool]int{}, 0
	for _, f := range append(given(250), full()) {
		from := freeRanges(f)
		order, minute := best(f, cornersOf(from, f.Queue))
		other, less := best(f, cornersOf(append(from, to(f.Open, f.Open)), f.Queue))
		if a := ask(t, f); a.more != minute-less {
			t.Errorf("More of %v: %d; not from %d to %d", f, a.more, minute, less)
		}
		counts[minute > less]++
		if !slices.Equal(order, other) {
			changes++
		}
	}
	if counts[true] < 50 || counts[false] < 50 || changes < 20 {
		t.Errorf("the floors do not try enough: %v, %d", counts, changes)
	}
}
