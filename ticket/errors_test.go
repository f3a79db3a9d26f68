package ticket_test

import (
	"math"
	"slices"
	"testing"

	"posser/api"
	"posser/ticket"
)

// call is a call of the package with its results in one form: the errors that it may return after those of the house are tested apart.
type call struct {
	name   string
	of     func(h ticket.House) api.Errno
	zero   func(h ticket.House) bool // whether each result but the error is the zero value
	truths bool                      // whether it asks for a truth
}

func calls() []call {
	return []call{
		{"CheckHouse", ticket.CheckHouse, func(h ticket.House) bool { return true }, false},
		{"Play", func(h ticket.House) api.Errno { _, e := ticket.Play(h, lows(h)); return e }, func(h ticket.House) bool { l, _ := ticket.Play(h, lows(h)); return len(l) == 0 }, false},
		{"Clocks", func(h ticket.House) api.Errno { _, e := ticket.Clocks(h); return e }, func(h ticket.House) bool { l, _ := ticket.Clocks(h); return len(l) == 0 }, true},
		{"Hours", func(h ticket.House) api.Errno { _, e := ticket.Hours(h); return e }, func(h ticket.House) bool { l, _ := ticket.Hours(h); return len(l) == 0 }, true},
		{"Long", func(h ticket.House) api.Errno { _, e := ticket.Long(h); return e }, func(h ticket.House) bool { l, _ := ticket.Long(h); return len(l) == 0 }, true},
		{"Clash", func(h ticket.House) api.Errno { _, e := ticket.Clash(h, 0, 1); return e }, func(h ticket.House) bool { v, _ := ticket.Clash(h, 0, 1); return v == 0 }, true},
		{"Paid", func(h ticket.House) api.Errno { _, e := ticket.Paid(h); return e }, func(h ticket.House) bool { v, _ := ticket.Paid(h); return v == 0 }, true},
		{"Free", func(h ticket.House) api.Errno { _, e := ticket.Free(h, 8); return e }, func(h ticket.House) bool { r, _ := ticket.Free(h, 8); return r == to(0, 0) }, true},
		{"Look", func(h ticket.House) api.Errno { _, _, e := ticket.Look(h); return e }, func(h ticket.House) bool { c, n, _ := ticket.Look(h); return c == 0 && n == 0 }, true},
		{"First", func(h ticket.House) api.Errno { _, e := ticket.First(h); return e }, func(h ticket.House) bool { n, _ := ticket.First(h); return n == 0 }, false},
		{"Leave", func(h ticket.House) api.Errno { _, e := ticket.Leave(h); return e }, func(h ticket.House) bool { l, _ := ticket.Leave(h); return len(l) == 0 }, false},
	}
}

// lows are the least errors of the clocks.
func lows(h ticket.House) []int {
	var out []int
	for _, c := range h.Clocks {
		out = append(out, c.Lo)
	}
	return out
}

// change is one of a valid house, and the error that the house then has.
type change struct {
	name string
	to   func(h *ticket.House)
	want api.Errno
}

// changes are at both sides of each limit.
func changes() []change {
	return []change{
		{"nothing", func(h *ticket.House) {}, api.OK},
		{"Hour 1", func(h *ticket.House) { h.Hour = 1 }, api.OK},
		{"Hour 0", func(h *ticket.House) { h.Hour = 0 }, api.ErrArg},
		{"Hour -60", func(h *ticket.House) { h.Hour = -60 }, api.ErrArg},
		{"Hour 120", func(h *ticket.House) { h.Hour = 120 }, api.OK},
		{"Hour 121", func(h *ticket.House) { h.Hour = 121 }, api.ErrArg},
		{"Grace 0", func(h *ticket.House) { h.Grace = 0 }, api.OK},
		{"Grace -1", func(h *ticket.House) { h.Grace = -1 }, api.ErrArg},
		{"Grace 60", func(h *ticket.House) { h.Grace = 60 }, api.OK},
		{"Grace 61", func(h *ticket.House) { h.Grace = 61 }, api.ErrArg},

		{"4 clocks", func(h *ticket.House) { h.Clocks = ranges(0, 0, 0, 0, 0, 0, 0, 0) }, api.OK},
		{"5 clocks", func(h *ticket.House) { h.Clocks = make([]ticket.Range, 5) }, api.ErrLimit},
		{"no clocks", func(h *ticket.House) { h.Clocks = nil }, api.ErrArg},
		{"no clocks and no clips", func(h *ticket.House) { h.Clocks, h.Clips = nil, nil }, api.OK},
		{"a clock less", func(h *ticket.House) { h.Clocks = h.Clocks[:1] }, api.ErrArg},
		{"a clock from -30", func(h *ticket.House) { h.Clocks[0] = to(-30, -30) }, api.OK},
		{"a clock from -31", func(h *ticket.House) { h.Clocks[0] = to(-31, -30) }, api.ErrArg},
		{"a clock to 30", func(h *ticket.House) { h.Clocks[0] = to(30, 30) }, api.OK},
		{"a clock to 31", func(h *ticket.House) { h.Clocks[0] = to(30, 31) }, api.ErrArg},
		{"a clock without errors", func(h *ticket.House) { h.Clocks[0] = to(1, 0) }, api.ErrArg},
		{"the last clock", func(h *ticket.House) { h.Clocks[1] = to(5, -5) }, api.ErrArg},
		{"2000 errors by two", func(h *ticket.House) { h.Clocks = ranges(-20, 19, -25, 24) }, api.OK},
		{"2000 errors by four", func(h *ticket.House) { h.Clocks = full().Clocks }, api.OK},
		{"2001 errors", func(h *ticket.House) { h.Clocks = ranges(0, 2, -11, 11, 1, 29) }, api.ErrLimit},
		{"61 times 61 errors", func(h *ticket.House) { h.Clocks = ranges(-30, 30, -30, 30) }, api.ErrLimit},

		{"6 tickets", func(h *ticket.House) { h.Tickets = make([]ticket.Ticket, 6) }, api.OK},
		{"7 tickets", func(h *ticket.House) { h.Tickets = make([]ticket.Ticket, 7) }, api.ErrLimit},
		{"a ticket less", func(h *ticket.House) { h.Tickets = h.Tickets[:1] }, api.ErrArg},
		{"the tub 8", func(h *ticket.House) { h.Tickets[0].Tub = 8 }, api.OK},
		{"the tub 9", func(h *ticket.House) { h.Tickets[0].Tub = 9 }, api.ErrArg},
		{"the tub -1", func(h *ticket.House) { h.Tickets[1].Tub = -1 }, api.ErrArg},
		{"9 hours", func(h *ticket.House) { h.Tickets[0].Hours = 9 }, api.OK},
		{"10 hours", func(h *ticket.House) { h.Tickets[1].Hours = 10 }, api.ErrArg},
		{"0 hours", func(h *ticket.House) { h.Tickets[0].Hours = 0 }, api.OK},
		{"-1 hours", func(h *ticket.House) { h.Tickets[0].Hours = -1 }, api.ErrArg},

		{"10 clips", func(h *ticket.House) { *h = full() }, api.OK},
		{"11 clips", func(h *ticket.House) { *h = full(); h.Clips = append(h.Clips, clip(5, 2, 1439)) }, api.ErrLimit},
		{"no clips", func(h *ticket.House) { h.Clips = nil }, api.OK},
		{"a third clip of a ticket", func(h *ticket.House) { h.Clips = append(h.Clips, clip(0, 0, 900)) }, api.ErrArg},
		{"a third clip of the last ticket", func(h *ticket.House) { h.Clips = append(h.Clips, clip(1, 1, 900)) }, api.ErrArg},
		{"a clip of the ticket 2", func(h *ticket.House) { h.Clips[3].Ticket = 2 }, api.ErrArg},
		{"a clip of the ticket -1", func(h *ticket.House) { h.Clips[0].Ticket = -1 }, api.ErrArg},
		{"a clip by the clock 2", func(h *ticket.House) { h.Clips[3].Clock = 2 }, api.ErrArg},
		{"a clip by the clock -1", func(h *ticket.House) { h.Clips[0].Clock = -1 }, api.ErrArg},
		{"a clip at 0", func(h *ticket.House) { h.Clips[0].Minute = 0 }, api.OK},
		{"a clip at -1", func(h *ticket.House) { h.Clips[0].Minute = -1 }, api.ErrArg},
		{"a clip at 1439", func(h *ticket.House) { h.Clips[3].Minute = 1439 }, api.OK},
		{"a clip at 1440", func(h *ticket.House) { h.Clips[3].Minute = 1440 }, api.ErrArg},

		// The order of the row.
		{"5 clocks, Hour 0", func(h *ticket.House) { h.Clocks, h.Hour = make([]ticket.Range, 5), 0 }, api.ErrLimit},
		{"7 tickets, Grace -1", func(h *ticket.House) { h.Tickets, h.Grace = make([]ticket.Ticket, 7), -1 }, api.ErrLimit},
		{"11 clips of no ticket", func(h *ticket.House) { h.Clips, h.Tickets = make([]ticket.Clip, 11), nil }, api.ErrLimit},
		{"61 times 61 errors, Hour 0", func(h *ticket.House) { h.Clocks, h.Hour = ranges(-30, 30, -30, 30), 0 }, api.ErrArg},
		{"61 times 61 errors, the last clip", func(h *ticket.House) { h.Clocks, h.Clips[3].Minute = ranges(-30, 30, -30, 30), -1 }, api.ErrArg},
		{"61 times 61 errors, three clips", func(h *ticket.House) {
			h.Clocks, h.Clips[3].Ticket = ranges(-30, 30, -30, 30), 0
			h.Clips[2].Ticket = 0
		}, api.ErrArg},

		// Numbers that nothing may be computed from.
		{"the greatest Hour", func(h *ticket.House) { h.Hour = math.MaxInt }, api.ErrArg},
		{"the least Grace", func(h *ticket.House) { h.Grace = math.MinInt }, api.ErrArg},
		{"all errors", func(h *ticket.House) { h.Clocks[1] = to(math.MinInt, math.MaxInt) }, api.ErrArg},
		{"no errors", func(h *ticket.House) { h.Clocks[1] = to(math.MaxInt, math.MinInt) }, api.ErrArg},
		{"the greatest tub", func(h *ticket.House) { h.Tickets[0].Tub = math.MaxInt }, api.ErrArg},
		{"the least Hours", func(h *ticket.House) { h.Tickets[0].Hours = math.MinInt }, api.ErrArg},
		{"the greatest ticket", func(h *ticket.House) { h.Clips[0].Ticket = math.MaxInt }, api.ErrArg},
		{"the least clock", func(h *ticket.House) { h.Clips[0].Clock = math.MinInt }, api.ErrArg},
		{"the least minute", func(h *ticket.House) { h.Clips[0].Minute = math.MinInt }, api.ErrArg},
	}
}

// P1.1, R1, R2, P1: each call returns the error of the house, and with it nothing else.
func TestErrorsOfTheHouse(t *testing.T) {
	for _, c := range changes() {
		h := example()
		c.to(&h)
		if e := ticket.CheckHouse(h); e != c.want {
			t.Errorf("CheckHouse with %s: %v, not %v", c.name, e, c.want)
		}
		if c.want == api.OK {
			continue
		}
		for _, x := range calls() {
			if e := x.of(h); e != c.want || !x.zero(h) {
				t.Errorf("%s with %s: %v, not %v", x.name, c.name, e, c.want)
			}
		}
		if ticket.ProveTruth(h, lows(h)) || ticket.ProveTruth(h, nil) {
			t.Errorf("ProveTruth with %s", c.name)
		}
	}
}

// R1, R2: the calls that ask for a truth return ErrFalse, and nothing else, if there is none; the others do not.
func TestErrorsWithoutATruth(t *testing.T) {
	h := false4()
	for _, x := range calls() {
		if e := x.of(h); (e == api.ErrFalse) != x.truths || !x.truths && e != api.OK || x.truths && !x.zero(h) {
			t.Errorf("%s: %v", x.name, e)
		}
	}
}

// R1: the errors of the house come before those of a call, and these in the order of the rows.
func TestErrorsOfPlay(t *testing.T) {
	bad := example()
	bad.Hour = 0
	for _, x := range []struct {
		h      ticket.House
		errors []int
		want   api.Errno
	}{
		{example(), list(0, -5), api.OK},
		{example(), list(0, 5), api.OK},
		{example(), list(0, 0), api.OK}, // no truth
		{false4(), list(0, 3), api.OK},
		{example(), list(0, -6), api.ErrRange},
		{example(), list(0, 6), api.ErrRange},
		{example(), list(1, 0), api.ErrRange},
		{example(), list(-1, 0), api.ErrRange},
		{example(), list(0), api.ErrRange},
		{example(), nil, api.ErrRange},
		{example(), list(0, 3, 0), api.ErrRange},
		{example(), list(0, 3, 0, 0, 0, 0), api.ErrRange},
		{example(), list(0, math.MaxInt), api.ErrRange},
		{example(), list(math.MinInt, 0), api.ErrRange},
		{false4(), list(0, 6), api.ErrRange},
		{bad, list(0, 6), api.ErrArg},
		{ticket.House{Hour: 1}, list(0), api.ErrRange},
		{ticket.House{Hour: 1}, list(), api.OK},
		{ticket.House{Hour: 1}, nil, api.OK},
	} {
		l, e := ticket.Play(x.h, x.errors)
		if e != x.want || e != api.OK && len(l) > 0 || e == api.OK && len(l) != len(x.h.Clips) {
			t.Errorf("Play of %v, %v: %v, %v; not %v", x.h, x.errors, l, e, x.want)
		}
	}
}

func TestErrorsOfClash(t *testing.T) {
	bad := example()
	bad.Grace = 61
	for _, x := range []struct {
		h          ticket.House
		one, other int
		want       api.Errno
	}{
		{example(), 0, 1, api.OK},
		{example(), 1, 0, api.OK},
		{example(), 0, 2, api.ErrRange},
		{example(), 2, 0, api.ErrRange},
		{example(), -1, 0, api.ErrRange},
		{example(), 0, -1, api.ErrRange},
		{example(), math.MaxInt, math.MinInt, api.ErrRange},
		{example(), 2, 2, api.ErrRange},
		{example(), -1, -1, api.ErrRange},
		{example(), 0, 0, api.ErrTwice},
		{example(), 1, 1, api.ErrTwice},
		{false4(), 3, 0, api.ErrRange},
		{false4(), 3, 3, api.ErrRange},
		{false4(), 2, 2, api.ErrTwice},
		{false4(), 2, 1, api.ErrFalse},
		{bad, 5, 5, api.ErrArg},
		{bad, 0, 0, api.ErrArg},
		{ticket.House{Hour: 1}, 0, 0, api.ErrRange},
	} {
		if v, e := ticket.Clash(x.h, x.one, x.other); e != x.want || e != api.OK && v != 0 {
			t.Errorf("Clash of %v, %d, %d: %d, %v; not %v", x.h, x.one, x.other, v, e, x.want)
		}
	}
}

func TestErrorsOfFree(t *testing.T) {
	bad := example()
	bad.Clocks = ranges(-30, 30, -30, 30)
	for _, x := range []struct {
		h    ticket.House
		tub  int
		want api.Errno
	}{
		{example(), 0, api.OK},
		{example(), 8, api.OK},
		{example(), 9, api.ErrRange},
		{example(), -1, api.ErrRange},
		{example(), math.MaxInt, api.ErrRange},
		{example(), math.MinInt, api.ErrRange},
		{false4(), 9, api.ErrRange},
		{false4(), 1, api.ErrState},
		{false4(), 0, api.ErrFalse},
		{false4(), 2, api.ErrFalse},
		{bad, 9, api.ErrLimit},
		{bad, 0, api.ErrLimit},
		{ticket.House{Hour: 1}, 3, api.OK},
	} {
		if r, e := ticket.Free(x.h, x.tub); e != x.want || e != api.OK && r != to(0, 0) {
			t.Errorf("Free of %v, %d: %v, %v; not %v", x.h, x.tub, r, e, x.want)
		}
	}
}

func TestErrorsOfLookAndFirst(t *testing.T) {
	noClocks := right(60, 0, list(1, 2))
	noClocks.Clocks = nil
	for _, x := range []struct {
		h           ticket.House
		look, first api.Errno
	}{
		{example(), api.OK, api.ErrNone},
		{false4(), api.ErrFalse, api.OK},
		{noClocks, api.ErrNone, api.ErrNone},
		{ticket.House{Hour: 1}, api.ErrNone, api.ErrNone},
		{ticket.House{}, api.ErrArg, api.ErrArg},
	} {
		if c, n, e := ticket.Look(x.h); e != x.look || e != api.OK && (c != 0 || n != 0) {
			t.Errorf("Look of %v: %d, %d, %v; not %v", x.h, c, n, e, x.look)
		}
		if n, e := ticket.First(x.h); e != x.first || e != api.OK && n != 0 {
			t.Errorf("First of %v: %d, %v; not %v", x.h, n, e, x.first)
		}
	}
}

// R3: nil and a list without elements are the same.
func TestNoElements(t *testing.T) {
	none := ticket.House{Hour: 1}
	empty := ticket.House{Hour: 1, Clocks: []ticket.Range{}, Tickets: []ticket.Ticket{}, Clips: []ticket.Clip{}}
	for _, h := range []ticket.House{none, empty} {
		a := ask(t, h)
		if len(a.clocks)+len(a.hours)+len(a.long) > 0 || a.paid != always || len(leave(t, h)) > 0 {
			t.Errorf("answers: %v", a)
		}
		for _, errors := range [][]int{nil, {}} {
			if l, e := ticket.Play(h, errors); len(l) > 0 || e != api.OK || !ticket.ProveTruth(h, errors) {
				t.Errorf("Play: %v, %v", l, e)
			}
		}
	}
}

// roomy is the house with its lists at the front of longer ones, so that what is written behind them shows.
func roomy(h ticket.House) (ticket.House, func() ticket.House) {
	h.Clocks = append(slices.Clone(h.Clocks), to(7, 7), to(8, 8))
	h.Tickets = append(slices.Clone(h.Tickets), ticket.Ticket{Tub: 7}, ticket.Ticket{Tub: 7})
	h.Clips = append(slices.Clone(h.Clips), clip(7, 7, 7), clip(8, 8, 8))
	all := h
	h.Clocks = h.Clocks[:len(h.Clocks)-2]
	h.Tickets = h.Tickets[:len(h.Tickets)-2]
	h.Clips = h.Clips[:len(h.Clips)-2]
	return h, func() ticket.House { return copied(all) }
}

func sameHouse(a, b ticket.House) bool {
	return a.Hour == b.Hour && a.Grace == b.Grace && slices.Equal(a.Clocks, b.Clocks) && slices.Equal(a.Tickets, b.Tickets) && slices.Equal(a.Clips, b.Clips)
}

// R4: arguments are not written to, nor what lies behind them.
func TestArgumentsAreNotWrittenTo(t *testing.T) {
	for _, of := range []ticket.House{example(), false4(), full()} {
		h, all := roomy(of)
		before := all()
		for _, x := range calls() {
			x.of(h)
			if !sameHouse(all(), before) {
				t.Fatalf("%s writes to its argument: %v, not %v", x.name, all(), before)
			}
		}
		errors := append(lows(h), 7)
		want := slices.Clone(errors)
		ticket.Play(h, errors[:len(h.Clocks)])
		ticket.ProveTruth(h, errors[:len(h.Clocks)])
		if !slices.Equal(errors, want) || !sameHouse(all(), before) {
			t.Errorf("Play or ProveTruth writes to its arguments: %v", errors)
		}
	}
}

// fill writes over all of the list's memory.
func fill[T any](l []T, with T) {
	l = l[:cap(l)]
	for i := range l {
		l[i] = with
	}
}

// R4: results share no memory with arguments, nor with the results of other calls.
func TestResultsHaveTheirOwnMemory(t *testing.T) {
	h, all := roomy(example())
	before, errors := all(), list(0, 3, 7)
	for range 2 {
		a := ask(t, h)
		l, e := ticket.Play(h, errors[:2])
		if e != api.OK || !slices.Equal(l, list(300, 363, 365, 485)) || !slices.Equal(a.clocks, ranges(0, 0, 1, 5)) || !slices.Equal(a.hours, ranges(1, 1, 2, 2)) || !slices.Equal(a.long, list(never, never)) {
			t.Fatalf("answers: %v, %v, %v", a, l, e)
		}
		fill(l, -99)
		fill(a.clocks, to(-99, 99))
		fill(a.hours, to(-99, 99))
		fill(a.long, -99)
		bad := false4()
		set := leave(t, bad)
		if !slices.Equal(set, list(4)) {
			t.Fatalf("Leave: %v", set)
		}
		fill(set, -99)
		if !sameHouse(all(), before) || !slices.Equal(errors, list(0, 3, 7)) || !sameHouse(bad, false4()) {
			t.Fatalf("a result is in an argument's memory: %v, %v", all(), errors)
		}
	}
	// A house whose clocks are known has the bounds that are its clocks.
	single := known(example(), 1, 3)
	r, _ := ticket.Clocks(single)
	fill(r, to(-99, 99))
	if !slices.Equal(single.Clocks, ranges(0, 0, 3, 3)) {
		t.Errorf("Clocks is in its argument's memory")
	}
}

// P1: no call panics, whatever its arguments are.
func TestAnyArguments(t *testing.T) {
	numbers := list(0, 1, -1, 2, 9, 61, 1440, math.MaxInt, math.MinInt)
	d := &dice{state: 3}
	number := func() int { return numbers[d.below(len(numbers))] }
	for range 2000 {
		h := d.thrown(true)
		if d.below(2) == 0 {
			h.Hour, h.Grace = number(), number()
		}
		for range d.below(3) {
			h.Clocks = append(h.Clocks, to(number(), number()))
		}
		for range d.below(3) {
			h.Tickets = append(h.Tickets, ticket.Ticket{Tub: number(), Hours: number()})
		}
		for range d.below(3) {
			h.Clips = append(h.Clips, clip(number(), number(), number()))
		}
		for _, x := range calls() {
			x.of(h)
		}
		one, other, errors := number(), number(), list(number(), number())
		ticket.Clash(h, one, other)
		ticket.Free(h, one)
		ticket.Play(h, errors)
		ticket.ProveTruth(h, errors[:d.below(3)])
	}
}
