package bundle

import "math"

// quantity is a number that a truth gives.
type quantity struct {
	of func(w atWork) int
}

// bounds asks for a table that has a truth: without one nothing is bounded.
func (q quantity) bounds(t Table) Range {
	r := Range{math.MaxInt, math.MinInt}
	for w := range t.truths() {
		n := q.of(w)
		r = Range{minimum(r.Lo, n), max(r.Hi, n)}
	}
	return r
}

// verdict tells whether the quantity is above 0.
func (q quantity) verdict(t Table) int {
	r := q.bounds(t)
	switch {
	case r.Lo > 0:
		return Always
	case r.Hi == 0:
		return Never
	}
	return Perhaps
}

// bestTruth keeps the first one of those that are as good, because truths come in lexicographic order.
func (t Table) bestTruth() atWork {
	var best atWork
	fewest := math.MaxInt
	for w := range t.truths() {
		if many := w.manyAstray(); many < fewest {
			best, fewest = w, many
		}
	}
	return best
}

// owned is a piece with an owner.
type owned struct{ piece, owner int }

// truthsWith counts the truths once for all pieces and owners.
func (t Table) truthsWith() map[owned]int {
	truths := map[owned]int{}
	for w := range t.truths() {
		for piece := range len(t.Pieces) {
			truths[owned{piece, w.owners[piece]}]++
		}
	}
	return truths
}

func (t Table) whose() [][]int {
	truths := t.truthsWith()
	whose := make([][]int, len(t.Pieces))
	for piece := range whose {
		for woman := range t.Women {
			if truths[owned{piece, woman}] > 0 {
				whose[piece] = append(whose[piece], woman)
			}
		}
	}
	return whose
}

// leaves returns for each piece what a look at it leaves.
func (t Table) leaves() []int {
	leaves := make([]int, len(t.Pieces))
	for key, many := range t.truthsWith() {
		leaves[key.piece] = max(leaves[key.piece], many)
	}
	return leaves
}

// minimum has its first number apart because of no numbers there is no smallest one.
func minimum(first int, more ...int) int {
	for _, n := range more {
		first = min(first, n)
	}
	return first
}
