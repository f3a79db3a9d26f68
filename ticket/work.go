package ticket

import (
	"iter"
	"math"

	"posser/api"
)

// clockErrors has the error of each clock. What is beyond the clocks of the house stays 0, so that two of a house are the same if they are equal.
type clockErrors [api.MaxTicketClocks]int

func (c clockErrors) trueMinute(clip Clip) int { return clip.Minute - c[clip.Clock] }

func (h House) errorsOf(list []int) (clockErrors, bool) {
	if len(list) != len(h.Clocks) {
		return clockErrors{}, false
	}
	var errors clockErrors
	for clock, off := range list {
		if !h.Clocks[clock].has(off) {
			return clockErrors{}, false
		}
		errors[clock] = off
	}
	return errors, true
}

// allErrors gives errors that are no truth, too.
func (h House) allErrors() iter.Seq[clockErrors] {
	return func(yield func(clockErrors) bool) {
		var errors clockErrors
		var choose func(clock int) bool
		choose = func(clock int) bool {
			if clock == len(h.Clocks) {
				return yield(errors)
			}
			for off := h.Clocks[clock].Lo; off <= h.Clocks[clock].Hi; off++ {
				errors[clock] = off
				if !choose(clock + 1) {
					return false
				}
			}
			return true
		}
		choose(0)
	}
}

// isTruth compares neighbours only: if none of them falls, no clip has a smaller true minute than any one before it.
func (h House) isTruth(errors clockErrors) bool {
	last := math.MinInt
	for _, c := range h.Clips {
		minute := errors.trueMinute(c)
		if minute < last {
			return false
		}
		last = minute
	}
	return true
}

// stay counts the clips of a ticket, because came and went alone do not tell a ticket that never stays from others.
type stay struct{ clips, came, went int }

// atWork is a house in one truth.
type atWork struct {
	House
	errors clockErrors
	stays  [api.MaxTicketTickets]stay
}

func (h House) work(errors clockErrors) atWork {
	w := atWork{House: h, errors: errors}
	for _, c := range h.Clips {
		s := &w.stays[c.Ticket]
		s.clips++
		if s.clips == 1 {
			s.came, s.went = errors.trueMinute(c), math.MaxInt
		} else {
			s.went = errors.trueMinute(c)
		}
	}
	return w
}

func (h House) truths() iter.Seq[atWork] {
	return func(yield func(atWork) bool) {
		for errors := range h.allErrors() {
			if h.isTruth(errors) && !yield(h.work(errors)) {
				return
			}
		}
	}
}

func (h House) hasTruth() bool {
	for range h.truths() {
		return true
	}
	return false
}

func (w atWork) errorOf(clock int) int { return w.errors[clock] }

func (w atWork) hoursOf(ticket int) int {
	s := w.stays[ticket]
	if s.clips < 2 {
		return 0
	}
	minutes := max(s.went-s.came-w.Grace, 0)
	return (minutes + w.Hour - 1) / w.Hour
}

func (w atWork) stayedTooLong(ticket int) bool { return w.hoursOf(ticket) > w.Tickets[ticket].Hours }

// clash asks first whether both stayed at all: a ticket without clips has no minutes that could be compared.
func (w atWork) clash(one, other int) bool {
	a, b := w.stays[one], w.stays[other]
	if a.clips == 0 || b.clips == 0 || w.Tickets[one].Tub != w.Tickets[other].Tub {
		return false
	}
	return a.came < b.went && b.came < a.went
}

func (w atWork) isPaidOnce() bool {
	for ticket := range w.Tickets {
		if w.stayedTooLong(ticket) {
			return false
		}
		for earlier := range ticket {
			if w.clash(earlier, ticket) {
				return false
			}
		}
	}
	return true
}

// freeFrom starts at the minute 0: no tub is free before the day.
func (w atWork) freeFrom(tub int) int {
	minute := 0
	for n, t := range w.Tickets {
		if t.Tub == tub && w.stays[n].clips == 2 {
			minute = max(minute, w.stays[n].went)
		}
	}
	return minute
}
