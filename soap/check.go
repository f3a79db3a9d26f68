package soap

import "posser/api"

func (r Range) has(n int) bool { return r.Lo <= n && n <= r.Hi }

// holds is false for a range without numbers, too.
func (r Range) holds(inner Range) bool {
	return r.has(inner.Lo) && r.has(inner.Hi) && inner.Lo <= inner.Hi
}

func (s Slate) isLong() bool {
	return s.Women > api.MaxSoapWomen || len(s.Entries) > api.MaxSoapEntries || len(s.Sayings) > api.MaxSoapSayings
}

// isValid does not ask for the sizes of the ranges: they can be multiplied only once the ranges are known to be valid.
func (s Slate) isValid() bool {
	isEntry, isSaying := s.isEntry, s.isSaying
	return s.Women >= 0 && each(s.Entries, isEntry) && each(s.Sayings, isSaying)
}

func (s Slate) isWoman(n int) bool { return 0 <= n && n < s.Women }

func (s Slate) areTwo(from, to int) bool { return s.isWoman(from) && s.isWoman(to) && from != to }

func (s Slate) isEntry(e Entry) bool {
	return s.areTwo(e.From, e.To) && Range{0, api.MaxSoapOunces}.holds(e.Ounces)
}

func (s Slate) isSaying(x Saying) bool {
	return s.isWoman(x.Woman) && Range{-api.MaxSoapOwed, api.MaxSoapOwed}.holds(x.Owed)
}

func (s Slate) isPayment(p Payment) bool {
	return s.areTwo(p.From, p.To) && Range{1, api.MaxSoapOwed}.has(p.Ounces)
}

func (s Slate) sizes() int {
	product := 1
	for _, e := range s.Entries {
		product *= e.Ounces.Hi - e.Ounces.Lo + 1
	}
	return product
}

func each[T any](list []T, is func(T) bool) bool {
	for _, x := range list {
		if !is(x) {
			return false
		}
	}
	return true
}
