package soap

import (
	"iter"
	"math"
	"slices"

	"posser/api"
)

// byEntry has a number for each entry. What is beyond the entries of the slate stays 0.
type byEntry [api.MaxSoapEntries]int

// byWoman has a number for each woman. What is beyond the women of the slate stays 0, so that two of the same slate are equal if those of its women are.
type byWoman [api.MaxSoapWomen]int

func (b byWoman) after(from, to, ounces int) byWoman {
	b[from] += ounces
	b[to] -= ounces
	return b
}

func (s Slate) ouncesOf(list []int) (byEntry, bool) {
	var chosen byEntry
	if len(list) != len(s.Entries) {
		return chosen, false
	}
	for n, ounces := range list {
		if !s.Entries[n].Ounces.has(ounces) {
			return chosen, false
		}
		chosen[n] = ounces
	}
	return chosen, true
}

// ounces gives all ounces of the slate, the lexicographically first ones first.
func (s Slate) ounces() iter.Seq[byEntry] {
	return func(yield func(byEntry) bool) {
		var chosen byEntry
		var choose func(entry int) bool
		choose = func(entry int) bool {
			if entry == len(s.Entries) {
				return yield(chosen)
			}
			r := s.Entries[entry].Ounces
			for n := r.Lo; n <= r.Hi; n++ {
				chosen[entry] = n
				if !choose(entry + 1) {
					return false
				}
			}
			return true
		}
		choose(0)
	}
}

// atWork is a slate with ounces, by which each woman is owed so much.
type atWork struct {
	Slate
	owed byWoman
}

func (s Slate) work(ounces byEntry) atWork {
	w := atWork{Slate: s}
	for n, e := range s.Entries {
		w.owed = w.owed.after(e.From, e.To, ounces[n])
	}
	return w
}

func (w atWork) all() []int { return slices.Clone(w.owed[:w.Women]) }

func (w atWork) isRight(x Saying) bool { return x.Owed.has(w.owed[x.Woman]) }

func (w atWork) areRight() bool { return each(w.Sayings, w.isRight) }

// areSettledBy takes a payment like an entry: what a woman pays, she is owed.
func (w atWork) areSettledBy(payments []Payment) bool {
	for _, p := range payments {
		w.owed = w.owed.after(p.From, p.To, p.Ounces)
	}
	return w.owed == byWoman{}
}

func (s Slate) truths() iter.Seq[atWork] {
	return func(yield func(atWork) bool) {
		for ounces := range s.ounces() {
			if w := s.work(ounces); w.areRight() && !yield(w) {
				return
			}
		}
	}
}

func (s Slate) hasTruth() bool {
	for range s.truths() {
		return true
	}
	return false
}

// quantity is a number that a truth gives.
type quantity struct {
	of func(w atWork) int
}

// bounds asks for a slate that has a truth: without one nothing is bounded.
func (q quantity) bounds(s Slate) Range {
	r := Range{math.MaxInt, math.MinInt}
	for w := range s.truths() {
		n := q.of(w)
		r = Range{minimum(r.Lo, n), max(r.Hi, n)}
	}
	return r
}

// owes returns whether a woman owes who is owed what is in the range.
func (r Range) owes() int {
	switch {
	case r.Hi < 0:
		return Always
	case r.Lo >= 0:
		return Never
	}
	return Perhaps
}

// minimum has its first number apart because of no numbers there is no smallest one.
func minimum(first int, more ...int) int {
	for _, n := range more {
		first = min(first, n)
	}
	return first
}
