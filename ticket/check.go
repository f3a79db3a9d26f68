package ticket

import "posser/api"

func (r Range) has(n int) bool { return r.Lo <= n && n <= r.Hi }

func (h House) isLong() bool {
	return len(h.Clocks) > api.MaxTicketClocks || len(h.Tickets) > api.MaxTicketTickets || len(h.Clips) > api.MaxTicketClips
}

// isValid does not ask for the sizes of the clocks: they can be multiplied only once the clocks are known to be valid.
func (h House) isValid() bool {
	if !(Range{1, api.MaxTicketHour}).has(h.Hour) || !(Range{0, api.MaxTicketGrace}).has(h.Grace) {
		return false
	}
	isClip := h.isClip
	return each(h.Clocks, isClock) && each(h.Tickets, isTicket) && each(h.Clips, isClip)
}

func isClock(c Range) bool {
	return -api.MaxTicketOff <= c.Lo && c.Lo <= c.Hi && c.Hi <= api.MaxTicketOff
}

func isTicket(t Ticket) bool {
	return isTub(t.Tub) && Range{0, api.MaxTicketHours}.has(t.Hours)
}

func isTub(tub int) bool { return Range{0, api.MaxTicketTubs - 1}.has(tub) }

// isClip counts the clips of the ticket too: a third one makes each of them invalid.
func (h House) isClip(c Clip) bool {
	hasClock := 0 <= c.Clock && c.Clock < len(h.Clocks)
	return h.hasTicket(c.Ticket) && hasClock && Range{0, api.MaxTicketMinute}.has(c.Minute) && h.clipsOf(c.Ticket) <= 2
}

func (h House) hasTicket(ticket int) bool { return 0 <= ticket && ticket < len(h.Tickets) }

func (h House) clipsOf(ticket int) int {
	many := 0
	for _, c := range h.Clips {
		if c.Ticket == ticket {
			many++
		}
	}
	return many
}

// isInUse: with just one clip of a ticket somebody came to the tub, and did not go.
func (h House) isInUse(tub int) bool {
	for n, t := range h.Tickets {
		if t.Tub == tub && h.clipsOf(n) == 1 {
			return true
		}
	}
	return false
}

func (h House) sizes() int {
	product := 1
	for _, c := range h.Clocks {
		product *= c.Hi - c.Lo + 1
	}
	return product
}

func each[T any](list []T, is func(T) bool) bool {
	for _, x := range list {
		if !is(x) {
			return false
		}
	}
	return true
}
