package ticket_test

import (
	"slices"
	"testing"

	"posser/api"
	"posser/ticket"
)

const (
	always  = ticket.Always
	never   = ticket.Never
	perhaps = ticket.Perhaps
)

// answers are what the calls return of a house.
type answers struct {
	clocks, hours []ticket.Range
	long          []int
	paid          int
	clash         map[[2]int]int
	free          map[int]ticket.Range
	clock, left   int
}

// ask calls all that needs a truth; each call must return OK.
func ask(t *testing.T, h ticket.House) answers {
	t.Helper()
	ok := func(call string, e api.Errno) {
		t.Helper()
		if e != api.OK {
			t.Fatalf("%s of %v: %v", call, h, e)
		}
	}
	a := answers{clash: map[[2]int]int{}, free: map[int]ticket.Range{}}
	var e api.Errno
	a.clocks, e = ticket.Clocks(h)
	ok("Clocks", e)
	a.hours, e = ticket.Hours(h)
	ok("Hours", e)
	a.long, e = ticket.Long(h)
	ok("Long", e)
	a.paid, e = ticket.Paid(h)
	ok("Paid", e)
	for one := range h.Tickets {
		for other := range h.Tickets {
			if one != other {
				a.clash[[2]int{one, other}], e = ticket.Clash(h, one, other)
				ok("Clash", e)
			}
		}
	}
	for tub := range 9 {
		if !inUse(h, tub) {
			a.free[tub], e = ticket.Free(h, tub)
			ok("Free", e)
		}
	}
	if len(h.Clocks) > 0 {
		a.clock, a.left, e = ticket.Look(h)
		ok("Look", e)
	}
	return a
}

func leave(t *testing.T, h ticket.House) []int {
	t.Helper()
	l, e := ticket.Leave(h)
	if e != api.OK {
		t.Fatalf("Leave of %v: %v", h, e)
	}
	return l
}

// Each row of the chapter's table of examples.
func TestExamples(t *testing.T) {
	if l, e := ticket.Play(example(), list(0, 3)); !slices.Equal(l, list(300, 363, 365, 485)) || e != api.OK {
		t.Errorf("Play: %v, %v", l, e)
	}
	a := ask(t, example())
	if !slices.Equal(a.clocks, ranges(0, 0, 1, 5)) || !slices.Equal(a.hours, ranges(1, 1, 2, 2)) || !slices.Equal(a.long, list(never, never)) {
		t.Errorf("Clocks, Hours, Long: %v", a)
	}
	if a.clash[[2]int{0, 1}] != never || a.paid != always || a.free[0] != to(483, 487) || a.free[1] != to(0, 0) {
		t.Errorf("Clash, Paid, Free: %v", a)
	}
	if a.clock != 1 || a.left != 1 {
		t.Errorf("Look: %v", a)
	}
	for _, x := range []struct {
		grace int
		hours []ticket.Range
		long  []int
		paid  int
	}{
		{3, ranges(1, 2, 2, 2), list(perhaps, never), perhaps},
		{0, ranges(2, 2, 2, 3), list(always, perhaps), never},
	} {
		h := example()
		h.Grace = x.grace
		if a := ask(t, h); !slices.Equal(a.hours, x.hours) || !slices.Equal(a.long, x.long) || a.paid != x.paid {
			t.Errorf("Hours, Long, Paid with Grace %d: %v", x.grace, a)
		}
	}
	h := example()
	h.Clips[1], h.Clips[2] = h.Clips[2], h.Clips[1]
	if a := ask(t, h); a.clash[[2]int{0, 1}] != perhaps || a.paid != perhaps {
		t.Errorf("Clash, Paid with clips exchanged: %v", a)
	}
	if n, e := ticket.First(false4()); n != 4 || e != api.OK {
		t.Errorf("First: %d, %v", n, e)
	}
	if l := leave(t, false4()); !slices.Equal(l, list(4)) {
		t.Errorf("Leave: %v", l)
	}
}

// P1.1: Play and ProveTruth agree with the definitions for all errors of the clocks.
func TestPlayAndProveTruth(t *testing.T) {
	for _, h := range many(150) {
		if e := ticket.CheckHouse(h); e != api.OK {
			t.Fatalf("CheckHouse of %v: %v", h, e)
		}
		for _, errors := range allErrors(h.Clocks) {
			want := minutes(h, errors)
			if l, e := ticket.Play(h, errors); !slices.Equal(l, want) || e != api.OK {
				t.Fatalf("Play of %v, %v: %v, %v; not %v", h, errors, l, e, want)
			}
			if is := ticket.ProveTruth(h, errors); is == falls(want, 0) {
				t.Fatalf("ProveTruth of %v, %v: %v", h, errors, is)
			}
		}
	}
}

// P1.1: what is a truth, by hand.
func TestProveTruthAtItsEdges(t *testing.T) {
	for _, x := range []struct {
		h      ticket.House
		errors []int
		want   bool
	}{
		{example(), list(0, 1), true}, // the clips 1 and 2 in one minute
		{example(), list(0, 0), false},
		{example(), list(0, 5), true},
		{example(), list(0, 6), false},
		{example(), list(0), false},
		{example(), nil, false},
		{example(), list(0, 3, 0), false},
		{false4(), list(0, 3), false},
		{ticket.House{Hour: 1}, nil, true},
		{ticket.House{Hour: 1}, list(), true},
		{ticket.House{Hour: 1}, list(0), false},
		{ticket.House{}, nil, false},
		{right(60, 0, list(0, 0), clip(0, 0, 9), clip(1, 0, 10), clip(1, 0, 9)), list(0), false},
	} {
		if is := ticket.ProveTruth(x.h, x.errors); is != x.want {
			t.Errorf("ProveTruth of %v, %v: %v", x.h, x.errors, is)
		}
	}
}

// P1.2, P1.3, P1.4, P1.5: what is returned is what the definitions say over all truths.
func TestAnswersOverAllTruths(t *testing.T) {
	for _, h := range truthful(400) {
		all, a := truths(h), ask(t, h)
		if len(a.clocks) != len(h.Clocks) || len(a.hours) != len(h.Tickets) || len(a.long) != len(h.Tickets) {
			t.Fatalf("lengths for %v: %v", h, a)
		}
		for n := range h.Clocks {
			if want := bounds(all, func(l []int) int { return l[n] }); a.clocks[n] != want {
				t.Errorf("Clocks of %v: %v; %d is %v", h, a.clocks, n, want)
			}
		}
		for n := range h.Tickets {
			if want := bounds(all, func(l []int) int { return hours(h, l, n) }); a.hours[n] != want {
				t.Errorf("Hours of %v: %v; %d is %v", h, a.hours, n, want)
			}
			if want := verdict(all, func(l []int) bool { return long(h, l, n) }); a.long[n] != want {
				t.Errorf("Long of %v: %v; %d is %v", h, a.long, n, want)
			}
		}
		for pair, got := range a.clash {
			if want := verdict(all, func(l []int) bool { return clash(h, l, pair[0], pair[1]) }); got != want {
				t.Errorf("Clash of %v, %v: %d, not %d", h, pair, got, want)
			}
		}
		if want := verdict(all, func(l []int) bool { return paid(h, l) }); a.paid != want {
			t.Errorf("Paid of %v: %d, not %d", h, a.paid, want)
		}
		for tub, got := range a.free {
			if want := bounds(all, func(l []int) int { return free(h, l, tub) }); got != want {
				t.Errorf("Free of %v, %d: %v, not %v", h, tub, got, want)
			}
		}
		var leaves []int
		for n := range h.Clocks {
			leaves = append(leaves, left(all, n))
		}
		if len(leaves) > 0 && (a.left != slices.Min(leaves) || a.clock != slices.Index(leaves, a.left)) {
			t.Errorf("Look of %v: %d, %d of %v", h, a.clock, a.left, leaves)
		}
	}
}

// P1.2, P1.3: hours are rounded up, after the Grace, and too long is more than was paid.
func TestHoursAtTheirEdges(t *testing.T) {
	for _, x := range []struct{ grace, minutes, hours, paid, long int }{
		{0, 0, 0, 0, never},
		{0, 1, 1, 0, always},
		{0, 1, 1, 1, never},
		{0, 30, 1, 1, never},
		{0, 31, 2, 1, always},
		{0, 60, 2, 2, never},
		{0, 61, 3, 9, never},
		{7, 0, 0, 0, never},
		{7, 6, 0, 0, never},
		{7, 7, 0, 0, never},
		{7, 8, 1, 0, always},
		{7, 37, 1, 1, never},
		{7, 38, 2, 1, always},
		{60, 59, 0, 0, never},
		{60, 1000, 32, 9, always},
	} {
		h := right(30, x.grace, list(x.paid), clip(0, 0, 100), clip(0, 0, 100+x.minutes))
		if a := ask(t, h); a.hours[0] != to(x.hours, x.hours) || a.long[0] != x.long {
			t.Errorf("Hours, Long after %d minutes with Grace %d: %v, %v", x.minutes, x.grace, a.hours, a.long)
		}
	}
}

// P1.2, P1.3: tickets that do not have two clips have no hours, and never stayed too long.
func TestTicketsWithoutTwoClips(t *testing.T) {
	a := ask(t, right(1, 0, list(0, 0), clip(1, 0, 0)))
	if !slices.Equal(a.hours, ranges(0, 0, 0, 0)) || !slices.Equal(a.long, list(never, never)) || a.paid != always {
		t.Errorf("Hours, Long, Paid: %v", a)
	}
}

// Example 1 of the document: a stay by one clock does not depend on what it is wrong by.
func TestOneClockForBothClips(t *testing.T) {
	h := ticket.House{Hour: 1, Clocks: ranges(-30, 30), Tickets: make([]ticket.Ticket, 1), Clips: clips(clip(0, 0, 300), clip(0, 0, 366))}
	if a := ask(t, h); a.hours[0] != to(66, 66) || a.clocks[0] != to(-30, 30) || a.free[0] != to(336, 396) {
		t.Errorf("Hours, Clocks, Free: %v", a)
	}
}

// P1.3: who comes in the minute in which another one goes does not clash with her.
func TestClashAtItsEdges(t *testing.T) {
	for _, x := range []struct {
		name  string
		clips []ticket.Clip
		want  int
	}{
		{"one after the other", clips(clip(0, 0, 10), clip(0, 0, 20), clip(1, 0, 21), clip(1, 0, 30)), never},
		{"in the minute in which she goes", clips(clip(0, 0, 10), clip(0, 0, 20), clip(1, 0, 20), clip(1, 0, 30)), never},
		{"a minute before she goes", clips(clip(0, 0, 10), clip(1, 0, 19), clip(0, 0, 20), clip(1, 0, 30)), always},
		{"one within the other", clips(clip(0, 0, 10), clip(1, 0, 12), clip(1, 0, 14), clip(0, 0, 20)), always},
		{"at the same minutes", clips(clip(0, 0, 10), clip(1, 0, 10), clip(1, 0, 20), clip(0, 0, 20)), always},
		{"both stay for ever", clips(clip(0, 0, 10), clip(1, 0, 12)), always},
		{"both come at once, and stay for ever", clips(clip(0, 0, 10), clip(1, 0, 10)), always},
		{"one stays for ever, and the other comes", clips(clip(0, 0, 10), clip(1, 0, 12), clip(1, 0, 14)), always},
		{"one goes before the other comes for ever", clips(clip(0, 0, 10), clip(0, 0, 12), clip(1, 0, 12)), never},
		{"one never stays", clips(clip(0, 0, 10)), never},
		{"one never stays, the other goes", clips(clip(1, 0, 10), clip(1, 0, 20)), never},
		{"none stays", nil, never},
	} {
		h := right(60, 60, list(9, 9), x.clips...)
		if a := ask(t, h); a.clash[[2]int{0, 1}] != x.want || a.clash[[2]int{1, 0}] != x.want || a.paid != always+never-x.want {
			t.Errorf("Clash, Paid if %s: %v, %d", x.name, a.clash, a.paid)
		}
		h.Tickets[1].Tub = 1
		if a := ask(t, h); a.clash[[2]int{0, 1}] != never || a.clash[[2]int{1, 0}] != never || a.paid != always {
			t.Errorf("Clash, Paid at two tubs if %s: %v, %d", x.name, a.clash, a.paid)
		}
	}
}

// P1.3: a ticket that never stays does not clash with one that came before the minute 0.
func TestNoClashBeforeTheMinute0(t *testing.T) {
	h := ticket.House{Hour: 60, Clocks: ranges(9, 9), Tickets: make([]ticket.Ticket, 2), Clips: clips(clip(0, 0, 4))}
	if a := ask(t, h); a.clash[[2]int{0, 1}] != never || a.clash[[2]int{1, 0}] != never || a.paid != always {
		t.Errorf("Clash, Paid of one who stays for ever: %v, %d", a.clash, a.paid)
	}
	h.Tickets[0].Hours = 1
	h.Clips = append(h.Clips, clip(0, 0, 14))
	if a := ask(t, h); a.clash[[2]int{0, 1}] != never || a.clash[[2]int{1, 0}] != never || a.paid != always {
		t.Errorf("Clash, Paid of one who goes: %v, %d", a.clash, a.paid)
	}
}

// P1.3: in no truth all is paid once, though nothing is wrong in all of them.
func TestPaidNeverByTurns(t *testing.T) {
	h := ticket.House{
		Hour: 10, Clocks: ranges(0, 0, 0, 1), Tickets: []ticket.Ticket{{0, 1}, {1, 1}},
		Clips: clips(clip(0, 1, 100), clip(1, 0, 100), clip(0, 0, 110), clip(1, 1, 111)),
	}
	a := ask(t, h)
	if !slices.Equal(a.long, list(perhaps, perhaps)) || a.paid != never {
		t.Errorf("Long, Paid: %v, %d", a.long, a.paid)
	}
}

// P1.4: the greatest of the second clips counts, and no minute below 0.
func TestFreeAtItsEdges(t *testing.T) {
	h := ticket.House{Hour: 60, Clocks: ranges(0, 0, 2, 9, -9, -2), Tickets: []ticket.Ticket{{3, 0}, {3, 0}, {8, 0}, {4, 0}, {0, 0}}}
	for _, x := range []struct {
		name  string
		clips []ticket.Clip
		tub   int
		want  ticket.Range
		e     api.Errno
	}{
		{"there are no clips", nil, 3, to(0, 0), api.OK},
		{"there is no such ticket", nil, 7, to(0, 0), api.OK},
		{"another tub is in use", clips(clip(3, 0, 5)), 3, to(0, 0), api.OK},
		{"the tub is in use", clips(clip(3, 0, 5)), 4, to(0, 0), api.ErrState},
		{"the tub is in use by another one", clips(clip(0, 0, 5), clip(1, 0, 6), clip(0, 0, 7)), 3, to(0, 0), api.ErrState},
		{"she goes before the minute 0", clips(clip(0, 1, 0), clip(0, 1, 1)), 3, to(0, 0), api.OK},
		{"she goes about the minute 0", clips(clip(0, 1, 0), clip(0, 1, 4)), 3, to(0, 2), api.OK},
		{"she goes after the minute 0", clips(clip(2, 2, 0), clip(2, 2, 4)), 8, to(6, 13), api.OK},
		{"the last one in the list went first", clips(clip(0, 0, 5), clip(1, 0, 6), clip(1, 0, 8), clip(0, 0, 9)), 3, to(9, 9), api.OK},
		{"others went later from another tub", clips(clip(0, 0, 5), clip(0, 0, 6), clip(2, 0, 8), clip(2, 0, 9)), 3, to(6, 6), api.OK},
		{"the tub is 0", clips(clip(4, 0, 5), clip(4, 0, 6)), 0, to(6, 6), api.OK},
	} {
		h.Clips = x.clips
		if r, e := ticket.Free(h, x.tub); r != x.want || e != x.e {
			t.Errorf("Free if %s: %v, %v", x.name, r, e)
		}
	}
}

// P1.5: of several clocks the first one is returned; those that no clip has count too.
func TestLookAtItsEdges(t *testing.T) {
	for _, x := range []struct {
		clocks      []ticket.Range
		clips       []ticket.Clip
		clock, left int
	}{
		{ranges(0, 0), nil, 0, 1},
		{ranges(0, 1, 5, 6), nil, 0, 2},
		{ranges(0, 1, 0, 2), nil, 1, 2},
		{ranges(0, 0, 0, 1, 0, 2, 0, 2), nil, 2, 6},
		{ranges(0, 0, 0, 0), nil, 0, 1},
		{ranges(0, 2, 0, 2), clips(clip(0, 0, 5), clip(0, 1, 5)), 0, 3},
		{ranges(0, 2, 0, 1), clips(clip(0, 0, 5), clip(0, 1, 4)), 0, 2}, // the truths 1 0, 2 0, 2 1
		{ranges(0, 1, 0, 4), clips(clip(0, 1, 6), clip(0, 0, 4)), 1, 2}, // the truths 0 2, 0 3, 0 4, 1 3, 1 4
	} {
		h := ticket.House{Hour: 60, Clocks: x.clocks, Tickets: make([]ticket.Ticket, 1), Clips: x.clips}
		if c, n, e := ticket.Look(h); c != x.clock || n != x.left || e != api.OK {
			t.Errorf("Look of %v: %d, %d, %v", h, c, n, e)
		}
	}
}

// P1.6: First and Leave are what the definitions say.
func TestFirstAndLeave(t *testing.T) {
	for _, h := range many(120) {
		n := -1
		for i := range h.Clips {
			shorter := h
			shorter.Clips = h.Clips[:i+1]
			if len(truths(shorter)) == 0 {
				n = i
				break
			}
		}
		got, e := ticket.First(h)
		if n < 0 && (got != 0 || e != api.ErrNone) || n >= 0 && (got != n || e != api.OK) {
			t.Errorf("First of %v: %d, %v; not %d", h, got, e, n)
		}
		all := sets(h)
		want := all[slices.IndexFunc(all, func(l []int) bool { return canLeave(h, l) })]
		if l := leave(t, h); !slices.Equal(l, want) {
			t.Errorf("Leave of %v: %v, not %v", h, l, want)
		}
	}
}

// P1.6: by hand.
func TestFirstAndLeaveAtTheirEdges(t *testing.T) {
	for _, x := range []struct {
		minutes []int
		first   int
		e       api.Errno
		leave   []int
	}{
		{nil, 0, api.ErrNone, nil},
		{list(5), 0, api.ErrNone, nil},
		{list(5, 5), 0, api.ErrNone, nil},
		{list(5, 4), 1, api.OK, list(0)},
		{list(5, 4, 5), 1, api.OK, list(0)},
		{list(5, 9, 6, 7), 2, api.OK, list(1)},
		{list(5, 6, 7, 1), 3, api.OK, list(3)},
		{list(5, 4, 3), 1, api.OK, list(0, 1)},
		{list(5, 6, 3, 4), 2, api.OK, list(0, 1)},
		{list(1, 9, 8, 2, 3), 2, api.OK, list(1, 2)},
		{list(2, 1, 4, 3, 6, 5), 1, api.OK, list(0, 2, 4)},
		{list(10, 9, 8, 7, 6, 5, 4, 3, 2, 1), 1, api.OK, list(0, 1, 2, 3, 4, 5, 6, 7, 8)},
		{list(1, 2, 3, 4, 5, 6, 7, 8, 9, 0), 9, api.OK, list(9)},
	} {
		h := right(60, 0, list(0, 0, 0, 0, 0, 0))
		for n, m := range x.minutes {
			h.Clips = append(h.Clips, clip(n/2, 0, m))
		}
		if n, e := ticket.First(h); n != x.first || e != x.e {
			t.Errorf("First of %v: %d, %v", x.minutes, n, e)
		}
		if l := leave(t, h); !slices.Equal(l, x.leave) {
			t.Errorf("Leave of %v: %v", x.minutes, l)
		}
	}
}
