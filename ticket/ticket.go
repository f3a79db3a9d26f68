// Package ticket counts the hours of tubs, by tickets that are clipped by clocks that differ.
package ticket

import (
	"slices"

	"posser/api"
)

// Range has all whole numbers from Lo to Hi, both included.
type Range struct{ Lo, Hi int }

// Ticket is for a tub, and for the hours that were paid.
type Ticket struct{ Tub, Hours int }

// Clip is one of a ticket: Minute is what the clock showed.
type Clip struct{ Ticket, Clock, Minute int }

// House has the clocks, each with the range of its error, the tickets, and the clips in the order in which they were made.
type House struct {
	Hour, Grace int
	Clocks      []Range
	Tickets     []Ticket
	Clips       []Clip
}

// The verdicts: so in each truth, in none, or in some alone.
const (
	Always  = 1
	Never   = 2
	Perhaps = 3
)

// CheckHouse returns the error of the house, or OK.
func CheckHouse(h House) api.Errno {
	switch {
	case h.isLong():
		return api.ErrLimit
	case !h.isValid():
		return api.ErrArg
	case h.sizes() > api.MaxTicketTruths:
		return api.ErrLimit
	}
	return api.OK
}

// Play returns the true minute of each clip, if the clocks are wrong by these errors.
func Play(h House, errors []int) ([]int, api.Errno) {
	if e := CheckHouse(h); e != api.OK {
		return nil, e
	}
	chosen, ok := h.errorsOf(errors)
	if !ok {
		return nil, api.ErrRange
	}
	minutes := make([]int, len(h.Clips))
	for n, c := range h.Clips {
		minutes[n] = chosen.trueMinute(c)
	}
	return minutes, api.OK
}

// Clocks returns the bounds of the error of each clock.
func Clocks(h House) ([]Range, api.Errno) {
	if e := checkTruth(h); e != api.OK {
		return nil, e
	}
	return quantity{of: atWork.errorOf}.boundsOfEach(h, len(h.Clocks)), api.OK
}

// Hours returns the bounds of the hours of each ticket.
func Hours(h House) ([]Range, api.Errno) {
	if e := checkTruth(h); e != api.OK {
		return nil, e
	}
	return quantity{of: atWork.hoursOf}.boundsOfEach(h, len(h.Tickets)), api.OK
}

// Long returns for each ticket whether it stayed too long.
func Long(h House) ([]int, api.Errno) {
	if e := checkTruth(h); e != api.OK {
		return nil, e
	}
	long := make([]int, len(h.Tickets))
	for ticket := range long {
		long[ticket] = h.verdict(func(w atWork) bool { return w.stayedTooLong(ticket) })
	}
	return long, api.OK
}

// Clash returns whether the two tickets clash.
func Clash(h House, one, other int) (int, api.Errno) {
	if e := CheckHouse(h); e != api.OK {
		return 0, e
	}
	switch {
	case !h.hasTicket(one) || !h.hasTicket(other):
		return 0, api.ErrRange
	case one == other:
		return 0, api.ErrTwice
	case !h.hasTruth():
		return 0, api.ErrFalse
	}
	return h.verdict(func(w atWork) bool { return w.clash(one, other) }), api.OK
}

// Paid returns whether all is paid once.
func Paid(h House) (int, api.Errno) {
	if e := checkTruth(h); e != api.OK {
		return 0, e
	}
	return h.verdict(atWork.isPaidOnce), api.OK
}

// Free returns the bounds of the minute from which on the tub is free.
func Free(h House, tub int) (Range, api.Errno) {
	if e := CheckHouse(h); e != api.OK {
		return Range{}, e
	}
	switch {
	case !isTub(tub):
		return Range{}, api.ErrRange
	case h.isInUse(tub):
		return Range{}, api.ErrState
	case !h.hasTruth():
		return Range{}, api.ErrFalse
	}
	return quantity{of: atWork.freeFrom}.bounds(h, tub), api.OK
}

// Look returns the clock to compare, and what a comparison of it leaves.
func Look(h House) (clock, left int, e api.Errno) {
	if e := checkTruth(h); e != api.OK {
		return 0, 0, e
	}
	if len(h.Clocks) == 0 {
		return 0, 0, api.ErrNone
	}
	leaves := h.leaves()
	left = minimum(leaves[0], leaves[1:]...)
	return slices.Index(leaves, left), left, api.OK
}

// First returns the first wrong clip.
func First(h House) (int, api.Errno) {
	if e := CheckHouse(h); e != api.OK {
		return 0, e
	}
	for n := range len(h.Clips) {
		if !h.with(h.Clips[:n+1]).hasTruth() {
			return n, api.OK
		}
	}
	return 0, api.ErrNone
}

// Leave returns the smallest set of clips that must be left out.
func Leave(h House) ([]int, api.Errno) {
	if e := CheckHouse(h); e != api.OK {
		return nil, e
	}
	return h.smallestSet(), api.OK
}

// ProveTruth reports whether the house is valid, and the list is a truth of it.
func ProveTruth(h House, errors []int) bool {
	if CheckHouse(h) != api.OK {
		return false
	}
	wanted, ok := h.errorsOf(errors)
	if !ok {
		return false
	}
	for w := range h.truths() {
		if w.errors == wanted {
			return true
		}
	}
	return false
}

// checkTruth returns the error of the house, or ErrFalse if it has no truth.
func checkTruth(h House) api.Errno {
	if e := CheckHouse(h); e != api.OK {
		return e
	}
	if !h.hasTruth() {
		return api.ErrFalse
	}
	return api.OK
}
