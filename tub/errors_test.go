package tub_test

import (
	"math"
	"slices"
	"testing"

	"posser/api"
	"posser/ticket"
	"posser/tub"
)

// call is a call of the package with its results in one form; its other arguments are right for the floor of the examples.
type call struct {
	name string
	of   func(f tub.Floor) (zero bool, e api.Errno) // zero: each result but the error is the zero value
}

func calls() []call {
	return []call{
		{"CheckFloor", func(f tub.Floor) (bool, api.Errno) { return true, tub.CheckFloor(f) }},
		{"Given", func(f tub.Floor) (bool, api.Errno) {
			l, r, e := tub.Given(f)
			return len(l) == 0 && len(r) == 0, e
		}},
		{"Play", func(f tub.Floor) (bool, api.Errno) {
			l, m, e := tub.Play(f, one(), list(0, 1, 2))
			return len(l) == 0 && len(m) == 0, e
		}},
		{"Ends", func(f tub.Floor) (bool, api.Errno) { l, e := tub.Ends(f, list(0, 1, 2)); return len(l) == 0, e }},
		{"Late", func(f tub.Floor) (bool, api.Errno) { n, e := tub.Late(f, list(2, 1, 0)); return n == 0, e }},
		{"Best", func(f tub.Floor) (bool, api.Errno) {
			l, n, e := tub.Best(f)
			return len(l) == 0 && n == 0, e
		}},
		{"Most", func(f tub.Floor) (bool, api.Errno) { l, e := tub.Most(f); return len(l) == 0, e }},
		{"Admit", func(f tub.Floor) (bool, api.Errno) { n, e := tub.Admit(f); return n == 0, e }},
		{"More", func(f tub.Floor) (bool, api.Errno) { n, e := tub.More(f); return n == 0, e }},
	}
}

// one is a truth of the floor of the examples.
func one() tub.Truth { return truth(list(485, 480), list(45, 25, 30)) }

func truth(from, minutes []int) tub.Truth { return tub.Truth{From: from, Minutes: minutes} }

// change is one of the floor of the examples, and the error that it then has.
type change struct {
	name string
	to   func(f *tub.Floor)
	want api.Errno
}

// changes are at both sides of each limit.
func changes() []change {
	return slices.Concat(changesOfHouses(), changesOfNumbers(), changesOfQueues(), changesOfTwoThings())
}

func noTruth(f *tub.Floor) { f.House.Clips[3].Minute = 300 }

func changesOfHouses() []change {
	clocks := func(l ...ticket.Range) func(f *tub.Floor) { return func(f *tub.Floor) { f.House.Clocks = l } }
	return []change{
		{"Hour 0", func(f *tub.Floor) { f.House.Hour = 0 }, api.ErrArg},
		{"Hour 121", func(f *tub.Floor) { f.House.Hour = 121 }, api.ErrArg},
		{"Grace 61", func(f *tub.Floor) { f.House.Grace = 61 }, api.ErrArg},
		{"5 clocks", clocks(make([]ticket.Range, 5)...), api.ErrLimit},
		{"no clocks", clocks(), api.ErrArg},
		{"a clock without errors", clocks(ticket.Range{Lo: 1}, ticket.Range{}), api.ErrArg},
		{"61 times 61 errors", clocks(ticket.Range{Lo: -30, Hi: 30}, ticket.Range{Lo: -30, Hi: 30}), api.ErrLimit},
		{"61 times 32 errors", clocks(ticket.Range{Lo: -30, Hi: 1}, ticket.Range{Lo: -30, Hi: 30}), api.OK},
		{"7 tickets", func(f *tub.Floor) { f.House.Tickets = make([]ticket.Ticket, 7) }, api.ErrLimit},
		{"11 clips", func(f *tub.Floor) { f.House.Clips = make([]ticket.Clip, 11) }, api.ErrLimit},
		{"a ticket of the tub 9", func(f *tub.Floor) { f.House.Tickets[1].Tub = 9 }, api.ErrArg},
		{"a ticket of the tub 8", func(f *tub.Floor) { f.House.Tickets[1].Tub = 8 }, api.OK},
		{"three clips of a ticket", func(f *tub.Floor) { f.House.Clips[2].Ticket = 0 }, api.ErrArg},
		{"a clip at 1440", func(f *tub.Floor) { f.House.Clips[3].Minute = 1440 }, api.ErrArg},
		{"a clip that cannot be true", noTruth, api.ErrFalse},
		{"clips at 354 and 355", func(f *tub.Floor) { f.House.Clips[1].Minute, f.House.Clips[2].Minute = 354, 300 }, api.ErrFalse},
	}
}

func changesOfNumbers() []change {
	tubs := func(n int) func(f *tub.Floor) { return func(f *tub.Floor) { f.Tubs = n } }
	hours := func(open, closing int) func(f *tub.Floor) {
		return func(f *tub.Floor) { f.Open, f.Closing = open, closing }
	}
	return []change{
		{"nothing", func(f *tub.Floor) {}, api.OK},
		{"nothing at all", func(f *tub.Floor) { *f = tub.Floor{} }, api.ErrArg},
		{"nothing but an hour and a tub", func(f *tub.Floor) { *f = tub.Floor{House: ticket.House{Hour: 1}, Tubs: 1} }, api.OK},
		{"as much as is allowed", func(f *tub.Floor) { *f = full() }, api.OK},
		{"all tubs in use", func(f *tub.Floor) { *f = inUse() }, api.OK},
		{"1 tub", tubs(1), api.OK},
		{"4 tubs", tubs(4), api.OK},
		{"5 tubs", tubs(5), api.ErrLimit},
		{"the most tubs", tubs(math.MaxInt), api.ErrLimit},
		{"0 tubs", tubs(0), api.ErrArg},
		{"-1 tubs", tubs(-1), api.ErrArg},
		{"the fewest tubs", tubs(math.MinInt), api.ErrArg},
		{"no time", hours(480, 480), api.OK},
		{"less than no time", hours(481, 480), api.ErrArg},
		{"all day", hours(0, 1439), api.OK},
		{"no time at first", hours(0, 0), api.OK},
		{"no time at last", hours(1439, 1439), api.OK},
		{"Open -1", hours(-1, 560), api.ErrArg},
		{"Closing 1440", hours(480, 1440), api.ErrArg},
		{"Closing -1", hours(480, -1), api.ErrArg},
		{"no time before the day", hours(-1, -1), api.ErrArg},
		{"no time after the day", hours(1440, 1440), api.ErrArg},
		{"more than all time", hours(math.MinInt, math.MaxInt), api.ErrArg},
		{"less than no time at all", hours(math.MaxInt, math.MinInt), api.ErrArg},
	}
}

func changesOfQueues() []change {
	many := func(n int) func(f *tub.Floor) { return func(f *tub.Floor) { f.Queue = make([]tub.Range, n) } }
	second := func(lo, hi int) func(f *tub.Floor) { return func(f *tub.Floor) { f.Queue[1] = to(lo, hi) } }
	return []change{
		{"nobody", many(0), api.OK},
		{"5 women", many(5), api.OK},
		{"6 women", many(6), api.ErrLimit},
		{"many women", many(1000), api.ErrLimit},
		{"0 to 240 minutes", second(0, 240), api.OK},
		{"240 minutes", second(240, 240), api.OK},
		{"0 minutes", second(0, 0), api.OK},
		{"0 to 241 minutes", second(0, 241), api.ErrArg},
		{"241 minutes", second(241, 241), api.ErrArg},
		{"-1 to 240 minutes", second(-1, 240), api.ErrArg},
		{"-1 minutes", second(-1, -1), api.ErrArg},
		{"21 to 20 minutes", second(21, 20), api.ErrArg},
		{"240 to 0 minutes", second(240, 0), api.ErrArg},
		{"all minutes", second(math.MinInt, math.MaxInt), api.ErrArg},
		{"no minutes", second(math.MaxInt, math.MinInt), api.ErrArg},
		{"no minutes of the first woman", func(f *tub.Floor) { f.Queue[0].Lo = 51 }, api.ErrArg},
		{"no minutes of the last woman", func(f *tub.Floor) { f.Queue[2].Hi = 29 }, api.ErrArg},
	}
}

// changesOfTwoThings try the order of the row.
func changesOfTwoThings() []change {
	return []change{
		{"a clip that cannot be true, 5 tubs", func(f *tub.Floor) { noTruth(f); f.Tubs = 5 }, api.ErrFalse},
		{"a clip that cannot be true, 6 women", func(f *tub.Floor) { noTruth(f); f.Queue = make([]tub.Range, 6) }, api.ErrFalse},
		{"a clip that cannot be true, 0 tubs", func(f *tub.Floor) { noTruth(f); f.Tubs = 0 }, api.ErrFalse},
		{"Hour 0, 5 tubs", func(f *tub.Floor) { f.House.Hour, f.Tubs = 0, 5 }, api.ErrArg},
		{"Hour 0, 6 women", func(f *tub.Floor) { f.House.Hour, f.Queue = 0, make([]tub.Range, 6) }, api.ErrArg},
		{"11 clips, 0 tubs", func(f *tub.Floor) { f.House.Clips, f.Tubs = make([]ticket.Clip, 11), 0 }, api.ErrLimit},
		{"11 clips, Open -1", func(f *tub.Floor) { f.House.Clips, f.Open = make([]ticket.Clip, 11), -1 }, api.ErrLimit},
		{"5 tubs, Open -1", func(f *tub.Floor) { f.Tubs, f.Open = 5, -1 }, api.ErrLimit},
		{"5 tubs, no minutes", func(f *tub.Floor) { f.Tubs, f.Queue[0].Lo = 5, 51 }, api.ErrLimit},
		{"6 women, 0 tubs", func(f *tub.Floor) { f.Queue, f.Tubs = make([]tub.Range, 6), 0 }, api.ErrLimit},
		{"6 women, Closing 1440", func(f *tub.Floor) { f.Queue, f.Closing = make([]tub.Range, 6), 1440 }, api.ErrLimit},
		{"6 women without minutes", func(f *tub.Floor) { f.Queue = slices.Repeat(ranges(2, 1), 6) }, api.ErrLimit},
		{"all tubs in use, 5 tubs", func(f *tub.Floor) { *f = inUse(); f.Tubs = 5 }, api.ErrLimit},
		{"all tubs in use, Closing -1", func(f *tub.Floor) { *f = inUse(); f.Closing = -1 }, api.ErrArg},
		{"all tubs in use, no minutes", func(f *tub.Floor) { *f = inUse(); f.Queue[1].Lo = 5 }, api.ErrArg},
	}
}

// P7.1, R1, R2, P1: each call returns the error of the floor, and with it nothing else, whatever its other arguments are.
func TestErrorsOfTheFloor(t *testing.T) {
	for _, x := range changes() {
		f := example()
		x.to(&f)
		if e := tub.CheckFloor(f); e != x.want {
			t.Errorf("CheckFloor with %s: %v, not %v", x.name, e, x.want)
		}
		if x.want == api.OK {
			continue
		}
		for _, y := range calls() {
			if zero, e := y.of(f); e != x.want || !zero {
				t.Errorf("%s with %s: %v, not %v", y.name, x.name, e, x.want)
			}
		}
		for _, order := range lists(nil, list(0), list(0, 0), list(-1), list(9)) {
			l, m, e := tub.Play(f, one(), order)
			r, g := tub.Ends(f, order)
			n, h := tub.Late(f, order)
			if len(l)+len(m)+len(r)+n > 0 || e != x.want || g != x.want || h != x.want {
				t.Errorf("Play, Ends, Late of %v with %s: %v, %v, %v", order, x.name, e, g, h)
			}
			if tub.ProveOrder(f, order, math.MaxInt) {
				t.Errorf("ProveOrder of %v with %s", order, x.name)
			}
		}
		if l, m, e := tub.Play(f, tub.Truth{}, nil); len(l)+len(m) > 0 || e != x.want || tub.ProveOrder(f, list(0, 1, 2), math.MaxInt) {
			t.Errorf("Play, ProveOrder with %s: %v", x.name, e)
		}
	}
}

// R1, R2: each call but CheckFloor returns ErrState, and nothing else, if no tub is given out, whatever its other arguments are.
func TestErrorsWithoutATub(t *testing.T) {
	used := example()
	used.Tubs, used.House.Clips = 1, used.House.Clips[:3]
	alone := clipped(9, nil, -1)
	four := clipped(9, ranges(0, 0), -1, -1, -1, -1)
	for _, f := range []tub.Floor{inUse(), used, alone, four} {
		if e := tub.CheckFloor(f); e != api.OK {
			t.Errorf("CheckFloor of %v: %v", f, e)
		}
		for _, y := range calls()[1:] {
			if zero, e := y.of(f); e != api.ErrState || !zero {
				t.Errorf("%s of %v: %v", y.name, f, e)
			}
		}
		for _, order := range lists(nil, list(0), list(0, 0), list(-1), list(9)) {
			l, m, e := tub.Play(f, tub.Truth{}, order)
			r, g := tub.Ends(f, order)
			n, h := tub.Late(f, order)
			if len(l)+len(m)+len(r)+n > 0 || e != api.ErrState || g != api.ErrState || h != api.ErrState {
				t.Errorf("Play, Ends, Late of %v, %v: %v, %v, %v", f, order, e, g, h)
			}
		}
		for _, order := range allOrders(f) {
			if tub.ProveOrder(f, order, math.MaxInt) {
				t.Errorf("ProveOrder of %v, %v", f, order)
			}
		}
	}
}

// R1, R2: Play asks for a truth.
func TestErrorsOfPlay(t *testing.T) {
	from, minutes := list(485, 480), list(45, 25, 30)
	opens := example()
	opens.Open = 485
	nobody := example()
	nobody.Queue = nil
	part := clipped(30, ranges(1, 1), -1, 10, -1, 12)
	for _, x := range []struct {
		f             tub.Floor
		from, minutes []int
		want          api.Errno
	}{
		{example(), from, minutes, api.OK},
		{example(), list(483, 480), list(40, 20, 30), api.OK},
		{example(), list(487, 480), list(50, 30, 40), api.OK},
		{example(), list(482, 480), minutes, api.ErrRange},
		{example(), list(488, 480), minutes, api.ErrRange},
		{example(), list(485, 479), minutes, api.ErrRange},
		{example(), list(485, 481), minutes, api.ErrRange},
		{example(), list(480, 485), minutes, api.ErrRange},
		{example(), list(math.MaxInt, 480), minutes, api.ErrRange},
		{example(), list(485, math.MinInt), minutes, api.ErrRange},
		{example(), list(485), minutes, api.ErrRange},
		{example(), list(485, 480, 480), minutes, api.ErrRange},
		{example(), nil, minutes, api.ErrRange},
		{example(), make([]int, 99), minutes, api.ErrRange},
		{example(), from, list(39, 25, 30), api.ErrRange},
		{example(), from, list(51, 25, 30), api.ErrRange},
		{example(), from, list(45, 19, 30), api.ErrRange},
		{example(), from, list(45, 25, 41), api.ErrRange},
		{example(), from, list(45, 25, math.MaxInt), api.ErrRange},
		{example(), from, list(math.MinInt, 25, 30), api.ErrRange},
		{example(), from, list(45, 25), api.ErrRange},
		{example(), from, list(45, 25, 30, 30), api.ErrRange},
		{example(), from, nil, api.ErrRange},
		{example(), from, make([]int, 99), api.ErrRange},
		{example(), minutes, from, api.ErrRange},
		{example(), nil, nil, api.ErrRange},
		{opens, list(485, 485), minutes, api.OK},
		{opens, list(484, 485), minutes, api.ErrRange},
		{opens, list(485, 480), minutes, api.ErrRange},
		{changed(1, 560), list(485), minutes, api.OK},
		{changed(1, 560), from, minutes, api.ErrRange},
		{changed(3, 560), list(485, 480, 480), minutes, api.OK},
		{changed(3, 560), from, minutes, api.ErrRange}, // what is missing is not the minute 0
		{nobody, from, nil, api.OK},
		{nobody, from, list(0), api.ErrRange},
		{part, list(10, 12), list(1), api.OK},
		{part, list(0, 10, 0, 12), list(1), api.ErrRange},
		{clipped(9, ranges(0, 5), 0), nil, list(0), api.ErrRange},
		{clipped(9, ranges(0, 5), 0), list(0), nil, api.ErrRange},
	} {
		if l, m, e := tub.Play(x.f, truth(x.from, x.minutes), nil); e != x.want || len(l)+len(m) > 0 {
			t.Errorf("Play of %v, %v, %v: %v, not %v", x.f, x.from, x.minutes, e, x.want)
		}
	}
}

// R1, R2: Play, Ends and Late ask for an order, of some women or of all, and ProveOrder for one of all.
func TestErrorsOfOrders(t *testing.T) {
	for _, x := range []struct {
		order []int
		want  api.Errno
	}{
		{nil, api.OK},
		{list(0), api.OK},
		{list(2), api.OK},
		{list(2, 0), api.OK},
		{list(0, 1, 2), api.OK},
		{list(2, 1, 0), api.OK},
		{list(3), api.ErrRange},
		{list(-1), api.ErrRange},
		{list(0, 1, 3), api.ErrRange},
		{list(-1, 1, 2), api.ErrRange},
		{list(0, 0), api.ErrRange},
		{list(1, 0, 1), api.ErrRange},
		{list(2, 2, 1), api.ErrRange},
		{list(0, 1, 2, 0), api.ErrRange},
		{list(0, 1, 2, 3), api.ErrRange},
		{list(math.MaxInt), api.ErrRange},
		{list(0, math.MinInt), api.ErrRange},
		{make([]int, 99), api.ErrRange},
		{queued(99), api.ErrRange},
	} {
		l, m, e := tub.Play(example(), one(), x.order)
		r, g := tub.Ends(example(), x.order)
		if e != x.want || g != x.want || e != api.OK && len(l)+len(m)+len(r) > 0 {
			t.Errorf("Play, Ends of %v: %v, %v; not %v", x.order, e, g, x.want)
		}
		n, h := tub.Late(example(), x.order)
		if n != 0 || x.want == api.OK && len(x.order) < 3 && h != api.ErrNone || x.want != api.OK && h != x.want {
			t.Errorf("Late of %v: %d, %v", x.order, n, h)
		}
		if is := tub.ProveOrder(example(), x.order, math.MaxInt); is != (x.want == api.OK && len(x.order) == 3) {
			t.Errorf("ProveOrder of %v: %v", x.order, is)
		}
	}
	if l, m, e := tub.Play(example(), tub.Truth{}, list(3)); len(l)+len(m) > 0 || e != api.ErrRange {
		t.Errorf("Play of no truth, and of no order: %v, %v, %v", l, m, e)
	}
}

// R1, R2: Late returns that an order is sure, but only of an order.
func TestErrorsOfLate(t *testing.T) {
	for _, x := range []struct {
		f     tub.Floor
		order []int
		late  int
		want  api.Errno
	}{
		{example(), list(0, 1, 2), 0, api.ErrNone},
		{example(), nil, 0, api.ErrNone},
		{changed(2, 557), list(0, 1, 2), 0, api.ErrNone},
		{changed(2, 556), list(0, 1, 2), 2, api.OK},
		{changed(2, 480), nil, 0, api.ErrNone},
		{changed(2, 480), list(0), 0, api.OK},
		{changed(2, 480), list(0, 0), 0, api.ErrRange},
		{changed(2, 480), list(0, 3), 0, api.ErrRange},
		{example(), list(0, 3), 0, api.ErrRange},
		{plain(1, 100), nil, 0, api.ErrNone},
		{plain(1, 100), list(0), 0, api.ErrRange},
	} {
		if n, e := tub.Late(x.f, x.order); n != x.late || e != x.want {
			t.Errorf("Late of %v, %v: %d, %v; not %d, %v", x.f, x.order, n, e, x.late, x.want)
		}
	}
}

// R3: nil and a list without elements are the same.
func TestNoElements(t *testing.T) {
	none := tub.Floor{House: ticket.House{Hour: 1}, Tubs: 2, Open: 5, Closing: 5}
	empty := none
	empty.House.Clocks, empty.House.Tickets, empty.House.Clips, empty.Queue = []ticket.Range{}, []ticket.Ticket{}, []ticket.Clip{}, []tub.Range{}
	for _, f := range []tub.Floor{none, empty} {
		a := ask(t, f)
		if !slices.Equal(a.tubs, list(0, 1)) || !slices.Equal(a.from, ranges(5, 5, 5, 5)) || len(a.best)+len(a.most)+a.admit+a.more > 0 || a.ending != 5 {
			t.Errorf("answers of %v: %v", f, a)
		}
		for _, l := range lists(nil, list()) {
			tubs, done := play(t, f, truth(list(5, 5), l), l)
			if len(tubs)+len(done)+len(bounds(t, f, l)) > 0 || late(t, f, l) >= 0 || !tub.ProveOrder(f, l, 5) {
				t.Errorf("Play, Ends, Late, ProveOrder of %v, %v", f, l)
			}
		}
	}
	for _, l := range lists(nil, list()) {
		tubs, done := play(t, example(), one(), l)
		if len(tubs)+len(done)+len(bounds(t, example(), l)) > 0 || late(t, example(), l) >= 0 || tub.ProveOrder(example(), l, 999) {
			t.Errorf("Play, Ends, Late, ProveOrder of %v", l)
		}
		for _, x := range []tub.Truth{truth(l, list(45, 25, 30)), truth(list(485, 480), l)} {
			if _, _, e := tub.Play(example(), x, nil); e != api.ErrRange {
				t.Errorf("Play of %v: %v", x, e)
			}
		}
	}
}

// roomy is the floor with its lists at the front of longer ones, so that what is written behind them shows.
func roomy(f tub.Floor) (tub.Floor, func() tub.Floor) {
	all := copied(f)
	all.House.Clocks = append(all.House.Clocks, ticket.Range{Lo: 71, Hi: 71}, ticket.Range{Lo: 72, Hi: 72})
	all.House.Tickets = append(all.House.Tickets, ticket.Ticket{Tub: 73}, ticket.Ticket{Tub: 74})
	all.House.Clips = append(all.House.Clips, clip(75, 75, 75), clip(76, 76, 76))
	all.Queue = append(all.Queue, to(77, 77), to(78, 78))
	front := all
	front.House.Clocks = all.House.Clocks[:len(f.House.Clocks)]
	front.House.Tickets = all.House.Tickets[:len(f.House.Tickets)]
	front.House.Clips = all.House.Clips[:len(f.House.Clips)]
	front.Queue = all.Queue[:len(f.Queue)]
	return front, func() tub.Floor { return copied(all) }
}

func sameFloors(a, b tub.Floor) bool {
	sameHouses := a.House.Hour == b.House.Hour && a.House.Grace == b.House.Grace && slices.Equal(a.House.Clocks, b.House.Clocks) &&
		slices.Equal(a.House.Tickets, b.House.Tickets) && slices.Equal(a.House.Clips, b.House.Clips)
	return sameHouses && a.Tubs == b.Tubs && a.Open == b.Open && a.Closing == b.Closing && slices.Equal(a.Queue, b.Queue)
}

// R4: arguments are not written to, nor what lies behind them.
func TestArgumentsAreNotWrittenTo(t *testing.T) {
	for _, of := range []tub.Floor{example(), changed(3, 519), plain(2, 125, 30, 20, 10), inUse(), full()} {
		f, all := roomy(of)
		before := all()
		for _, y := range calls() {
			y.of(f)
			if !sameFloors(all(), before) || !sameFloors(f, of) {
				t.Fatalf("%s writes to its argument: %v, not %v", y.name, all(), before)
			}
		}
		if len(givenTubs(of)) == 0 {
			continue
		}
		from, minutes, order := append(his(freeRanges(of)), 81, 82), append(los(of.Queue), 83, 84), append(queued(len(of.Queue)), 85, 86)
		slices.Reverse(order[:len(of.Queue)])
		l := lists(slices.Clone(from), slices.Clone(minutes), slices.Clone(order))
		front := order[:len(of.Queue)]
		play(t, f, truth(from[:len(from)-2], minutes[:len(minutes)-2]), front)
		bounds(t, f, front)
		late(t, f, front)
		tub.ProveOrder(f, front, 999)
		if !slices.Equal(from, l[0]) || !slices.Equal(minutes, l[1]) || !slices.Equal(order, l[2]) || !sameFloors(all(), before) || !sameFloors(f, of) {
			t.Errorf("Play, Ends, Late or ProveOrder writes to its arguments: %v, %v, %v, %v", from, minutes, order, f)
		}
	}
}

// fill writes over all of the list's memory.
func fill[T any](l []T, with T) {
	l = l[:cap(l)]
	for i := range l {
		l[i] = with
	}
}

// R4: results share no memory with arguments, nor with each other, nor with the results of other calls.
func TestResultsHaveTheirOwnMemory(t *testing.T) {
	f, all := roomy(example())
	before, x, order := all(), one(), list(0, 1, 2)
	for range 2 {
		a := ask(t, f)
		tubs, done := play(t, f, x, order)
		r := bounds(t, f, order)
		results := lists(a.tubs, tubs, done, a.best, a.most)
		want := lists(list(0, 1), list(1, 0, 0), list(525, 510, 540), list(1, 0, 2), list(0, 1, 2))
		both := [][]tub.Range{a.from, r}
		wantBoth := [][]tub.Range{ranges(483, 487, 480, 480), ranges(520, 530, 503, 517, 533, 557)}
		for n, l := range results {
			if !slices.Equal(l, want[n]) {
				t.Fatalf("the result %d: %v, not %v", n, l, want[n])
			}
			fill(l, -99)
		}
		for n, l := range both {
			if !slices.Equal(l, wantBoth[n]) {
				t.Fatalf("the ranges %d: %v, not %v", n, l, wantBoth[n])
			}
			fill(l, to(-99, -99))
		}
		if !sameFloors(all(), before) || !slices.Equal(x.From, one().From) || !slices.Equal(x.Minutes, one().Minutes) || !slices.Equal(order, list(0, 1, 2)) {
			t.Fatalf("a result is in an argument's memory: %v, %v, %v", all(), x, order)
		}
	}
}

// P1: no call panics, whatever its arguments are.
func TestAnyArguments(t *testing.T) {
	numbers := list(0, 1, -1, 2, 3, 4, 5, 6, 40, 60, 240, 1439, math.MaxInt, math.MinInt)
	d := &dice{state: 3}
	number := func() int { return numbers[d.below(len(numbers))] }
	aList := func() []int {
		return list(number(), number(), number(), number(), number(), number(), number(), number())[:d.below(9)]
	}
	for range 3000 {
		f := copied(d.thrown())
		switch d.below(9) {
		case 0:
			f.Tubs = number()
		case 1:
			f.Open = number()
		case 2:
			f.Closing = number()
		case 3:
			f.Open, f.Closing = number(), number()
		case 4:
			f.Queue = append(f.Queue, to(number(), number()))
		case 5:
			f.House.Tickets = append(f.House.Tickets, ticket.Ticket{Tub: number(), Hours: number()})
		case 6:
			f.House.Clips = append(f.House.Clips, clip(number(), number(), number()))
		case 7:
			f.House.Clocks = append(f.House.Clocks, ticket.Range{Lo: number(), Hi: number()})
		}
		for _, y := range calls() {
			y.of(f)
		}
		tub.Play(f, truth(aList(), aList()), aList())
		tub.Ends(f, aList())
		tub.Late(f, aList())
		tub.ProveOrder(f, aList(), number())
	}
}
