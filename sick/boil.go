package sick

import (
	"iter"
	"slices"

	"posser/api"
)

func atOnce(things []int, hour int) []Boiling {
	var boilings []Boiling
	for _, thing := range things {
		boilings = append(boilings, Boiling{thing, hour})
	}
	return boilings
}

func oneByOne(order []int, hour int) []Boiling {
	var boilings []Boiling
	for n, thing := range order {
		boilings = append(boilings, Boiling{thing, hour + n})
	}
	return boilings
}

// fewestThings finds the first list that keeps all safe, because shorter ones come first, and those of a length in lexicographic order. There is one: all things.
func (h House) fewestThings(hour int, truths []course) []int {
	var fewest []int
search:
	for many := range h.things() + 1 {
		for things := range h.sets(many) {
			if h.work(atOnce(things, hour)...).keepsSafe(truths) {
				fewest = slices.Clone(things)
				break search
			}
		}
	}
	return fewest
}

// shortestOrder finds the first order as fewestThings does; ok is false if there is none.
func (h House) shortestOrder(hour int, truths []course) (order []int, ok bool) {
	all := Range{0, h.things() - 1}.numbers()
	for many := range h.longestOrder(hour) + 1 {
		for things := range oneOfEach(slices.Repeat([][]int{all}, many)) {
			if h.work(oneByOne(things, hour)...).keepsSafe(truths) {
				return slices.Clone(things), true
			}
		}
	}
	return nil, false
}

func (h House) longestOrder(hour int) int { return minimum(api.MaxSickOrder, h.Last-hour+1) }

// sets gives each increasing list of so many things, the lexicographically first one first. What it gives is written over by the next one.
func (h House) sets(many int) iter.Seq[[]int] {
	return func(yield func([]int) bool) {
		var set []int
		var choose func(from int) bool
		choose = func(from int) bool {
			if len(set) == many {
				return yield(set)
			}
			for thing := from; thing < h.things(); thing++ {
				set = append(set, thing)
				if !choose(thing + 1) {
					return false
				}
				set = set[:len(set)-1]
			}
			return true
		}
		choose(0)
	}
}

// minimum has its first number apart because of no numbers there is no smallest one.
func minimum(first int, more ...int) int {
	for _, n := range more {
		first = min(first, n)
	}
	return first
}
