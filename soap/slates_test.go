package soap_test

import (
	"slices"

	"posser/soap"
)

// What is here makes slates, and says by the chapter's definitions alone what is so on them: slowly, and with nothing of the package but its types.

func list(l ...int) []int { return l }

func lists(l ...[]int) [][]int { return l }

func to(lo, hi int) soap.Range { return soap.Range{Lo: lo, Hi: hi} }

func ranges(l ...int) []soap.Range {
	var out []soap.Range
	for i := 0; i < len(l); i += 2 {
		out = append(out, to(l[i], l[i+1]))
	}
	return out
}

func entry(from, other, lo, hi int) soap.Entry {
	return soap.Entry{From: from, To: other, Ounces: to(lo, hi)}
}

func saying(woman, lo, hi int) soap.Saying { return soap.Saying{Woman: woman, Owed: to(lo, hi)} }

// pays are payments: from, to, ounces.
func pays(l ...int) []soap.Payment {
	var out []soap.Payment
	for i := 0; i < len(l); i += 3 {
		out = append(out, soap.Payment{From: l[i], To: l[i+1], Ounces: l[i+2]})
	}
	return out
}

// example is the slate of the chapter's examples, with sayings.
func example(l ...soap.Saying) soap.Slate {
	return soap.Slate{Women: 4, Entries: []soap.Entry{entry(0, 1, 2, 3), entry(1, 2, 2, 2), entry(3, 2, 1, 4)}, Sayings: l}
}

// noTruth is the slate of the examples with sayings that are not all right with any ounces.
func noTruth() soap.Slate { return example(saying(2, -4, -3), saying(1, -1, -1), saying(0, 2, 2)) }

// known has so many women, and known ounces: from, to, ounces.
func known(women int, l ...int) soap.Slate {
	s := soap.Slate{Women: women}
	for i := 0; i < len(l); i += 3 {
		s.Entries = append(s.Entries, entry(l[i], l[i+1], l[i+2], l[i+2]))
	}
	return s
}

// owing is a slate on which the women are owed so much: the first one lends to the others, or they to her.
func owing(l ...int) soap.Slate {
	s := soap.Slate{Women: len(l)}
	for woman, n := range l {
		switch {
		case woman > 0 && n < 0:
			s.Entries = append(s.Entries, entry(0, woman, -n, -n))
		case woman > 0 && n > 0:
			s.Entries = append(s.Entries, entry(woman, 0, n, n))
		}
	}
	return s
}

// full has as much of everything as is allowed, and 2000 truths but for its sayings.
func full() soap.Slate {
	return soap.Slate{
		Women:   6,
		Entries: []soap.Entry{entry(0, 1, 36, 40), entry(0, 2, 36, 40), entry(3, 2, 0, 4), entry(3, 4, 37, 40), entry(5, 4, 37, 40), entry(0, 5, 40, 40)},
		Sayings: []soap.Saying{saying(0, 112, 240), saying(2, -240, -40), saying(4, -78, -75), saying(0, 113, 114), saying(1, -36, 0)},
	}
}

// copied is the slate in memory of its own.
func copied(s soap.Slate) soap.Slate {
	s.Entries, s.Sayings = slices.Clone(s.Entries), slices.Clone(s.Sayings)
	return s
}

// dice throws the same numbers in each run.
type dice struct{ state uint64 }

// below returns a number from 0 to n less 1.
func (d *dice) below(n int) int {
	d.state = d.state*6364136223846793005 + 1442695040888963407
	return int(d.state>>33) % n
}

func (d *dice) from(lo, hi int) int { return lo + d.below(hi-lo+1) }

// thrown is a slate whose sayings are right with some of its ounces; with noise some are not.
func (d *dice) thrown(noise bool) soap.Slate {
	s := soap.Slate{Women: d.from(0, 6)}
	if d.below(3) > 0 {
		s.Women = d.from(4, 6)
	}
	if s.Women < 2 {
		return s
	}
	most, size := d.from(2, 12), 1
	if d.below(4) == 0 { // so that few women are settled by chance
		most = 37
	}
	for range d.from(min(s.Women, 6)-2, 6) {
		from, lo, more := d.below(s.Women), d.from(0, most), d.below(4)
		if size*(more+1) > 40 { // so that the tests are soon done
			more = 0
		}
		size *= more + 1
		s.Entries = append(s.Entries, entry(from, (from+d.from(1, s.Women-1))%s.Women, lo, lo+more))
	}
	all := allOunces(s)
	some := owed(s, all[d.below(len(all))])
	for range d.below(6) {
		woman, wide := d.below(s.Women), d.below(3)
		lo := some[woman] - d.below(wide+1)
		if noise && d.below(2) == 0 {
			lo += d.from(-3, 3)
		}
		s.Sayings = append(s.Sayings, saying(woman, lo, lo+wide))
	}
	return s
}

// many returns slates: those of the examples, small, known and full ones, and thrown ones.
func many(n int) []soap.Slate {
	out := []soap.Slate{
		example(), example(saying(2, -4, -3)), example(saying(2, -4, -3), saying(1, -1, -1)), noTruth(),
		{}, {Women: 1}, {Women: 6}, known(2, 0, 1, 0), known(2, 0, 1, 40), known(3, 0, 1, 7, 1, 2, 7, 2, 0, 7),
		owing(16, -1, -2, -4, -8, -1), owing(-16, 1, 2, 4, 8, 1), owing(3, -3, 5, -5, 7, -7), owing(3, 4, 5, -5, -4, -3), owing(1, 3, 9, 27, -20, -20),
	}
	d := &dice{state: 11}
	for i := range n {
		out = append(out, d.thrown(i%2 == 0))
	}
	return out
}

// truthful returns those of many slates that have a truth.
func truthful(n int) []soap.Slate {
	return slices.DeleteFunc(many(n), func(s soap.Slate) bool { return len(truths(s)) == 0 })
}

// allOunces returns all ounces of the slate.
func allOunces(s soap.Slate) [][]int {
	out := lists(nil)
	for _, e := range s.Entries {
		var longer [][]int
		for _, l := range out {
			for n := e.Ounces.Lo; n <= e.Ounces.Hi; n++ {
				longer = append(longer, append(slices.Clone(l), n))
			}
		}
		out = longer
	}
	return out
}

// owed goes through all entries for each woman.
func owed(s soap.Slate, ounces []int) []int {
	var out []int
	for woman := range s.Women {
		lent, got := 0, 0
		for n, e := range s.Entries {
			if e.From == woman {
				lent += ounces[n]
			}
			if e.To == woman {
				got += ounces[n]
			}
		}
		out = append(out, lent-got)
	}
	return out
}

// areRight reports whether the sayings are right with the ounces, those whose bit in left is set aside.
func areRight(s soap.Slate, ounces []int, left int) bool {
	l := owed(s, ounces)
	for n, x := range s.Sayings {
		if left>>n&1 == 0 && (l[x.Woman] < x.Owed.Lo || l[x.Woman] > x.Owed.Hi) {
			return false
		}
	}
	return true
}

// truths returns the truths of the slate.
func truths(s soap.Slate) [][]int {
	return slices.DeleteFunc(allOunces(s), func(l []int) bool { return !areRight(s, l, 0) })
}

// settled returns what the women are owed after payments.
func settled(owed []int, payments []soap.Payment) []int {
	out := slices.Clone(owed)
	for woman := range out {
		for _, p := range payments {
			if p.From == woman {
				out[woman] += p.Ounces
			}
			if p.To == woman {
				out[woman] -= p.Ounces
			}
		}
	}
	return out
}

// nobody reports whether nobody is owed anything, and nobody owes.
func nobody(owed []int) bool {
	return !slices.ContainsFunc(owed, func(n int) bool { return n != 0 })
}

func sum(l []int) int {
	out := 0
	for _, n := range l {
		out += n
	}
	return out
}

// notSettled returns how many women are not owed 0.
func notSettled(owed []int) int {
	return len(slices.DeleteFunc(slices.Clone(owed), func(n int) bool { return n == 0 }))
}

// pairs returns all pairs of so many women.
func pairs(women int) [][]int {
	var out [][]int
	for a := range women {
		for b := range a {
			out = append(out, list(b, a))
		}
	}
	return out
}

// canSettle reports whether some payments between these pairs alone settle all: just if the women whom pairs join are owed 0 together.
func canSettle(owed []int, joined [][]int) bool {
	place := make([]int, len(owed))
	for woman := range place {
		place[woman] = woman
	}
	for _, p := range joined {
		here, there := place[p[0]], place[p[1]]
		for woman := range place {
			if place[woman] == here {
				place[woman] = there
			}
		}
	}
	sums := make([]int, len(owed))
	for woman, n := range owed {
		sums[place[woman]] += n
	}
	return nobody(sums)
}

// fewest returns the number of the fewest payments: it tries all lists of pairs, shorter ones first.
func fewest(owed []int) int {
	all := pairs(len(owed))
	var joined [][]int
	var choose func(from, more int) bool
	choose = func(from, more int) bool {
		if more == 0 {
			return canSettle(owed, joined)
		}
		for n := from; n < len(all); n++ {
			joined = append(joined, all[n])
			if choose(n+1, more-1) {
				return true
			}
			joined = joined[:len(joined)-1]
		}
		return false
	}
	many := 0
	for !choose(0, many) {
		many++
	}
	return many
}

// mostGroups returns the number of the most groups: it puts the women one after the other into each group that there is, or into a new one.
func mostGroups(owed []int) int {
	most := 0
	var sums []int
	var put func(woman int)
	put = func(woman int) {
		if woman == len(owed) {
			if nobody(sums) {
				most = max(most, len(sums))
			}
			return
		}
		if owed[woman] == 0 {
			put(woman + 1)
			return
		}
		for n := range sums {
			sums[n] += owed[woman]
			put(woman + 1)
			sums[n] -= owed[woman]
		}
		sums = append(sums, owed[woman])
		put(woman + 1)
		sums = sums[:len(sums)-1]
	}
	put(0)
	return most
}

// counted keeps what fewest returned.
type counted map[[6]int]int

func (c counted) fewest(owed []int) int {
	var key [6]int
	copy(key[:], owed)
	if _, is := c[key]; !is {
		c[key] = fewest(owed)
	}
	return c[key]
}

// bounds returns the range of what the ounces give.
func bounds(all [][]int, of func(ounces []int) int) soap.Range {
	out := to(of(all[0]), of(all[0]))
	for _, l := range all {
		out = to(min(out.Lo, of(l)), max(out.Hi, of(l)))
	}
	return out
}

// sets returns all increasing lists of sayings: shorter ones first, and those of a length lexicographically.
func sets(s soap.Slate) [][]int {
	var out [][]int
	for bits := range 1 << len(s.Sayings) {
		l := []int{}
		for n := range s.Sayings {
			if bits>>n&1 == 1 {
				l = append(l, n)
			}
		}
		out = append(out, l)
	}
	slices.SortFunc(out, func(a, b []int) int {
		if len(a) != len(b) {
			return len(a) - len(b)
		}
		return slices.Compare(a, b)
	})
	return out
}

// canLeave reports whether the sayings can be left out together.
func canLeave(s soap.Slate, set []int) bool {
	bits := 0
	for _, n := range set {
		bits |= 1 << n
	}
	return slices.ContainsFunc(allOunces(s), func(l []int) bool { return areRight(s, l, bits) })
}

// without is the slate without some of its sayings.
func without(s soap.Slate, set []int) soap.Slate {
	var kept []soap.Saying
	for n, x := range s.Sayings {
		if !slices.Contains(set, n) {
			kept = append(kept, x)
		}
	}
	s.Sayings = kept
	return s
}
