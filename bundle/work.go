package bundle

import (
	"iter"

	"posser/api"
)

// pieceOwners has the owner of each piece. What is beyond the pieces of the table stays 0, so that two of a table are the same if they are equal.
type pieceOwners [api.MaxBundlePieces]int

// ownersOf looks for the list among all owners, so that each piece has one of its women.
func (t Table) ownersOf(list []int) (pieceOwners, bool) {
	if len(list) != len(t.Pieces) {
		return pieceOwners{}, false
	}
	var wanted pieceOwners
	copy(wanted[:], list)
	for owners := range t.allOwners() {
		if owners == wanted {
			return wanted, true
		}
	}
	return pieceOwners{}, false
}

// allOwners gives owners that are no truth, too, the lexicographically first ones first.
func (t Table) allOwners() iter.Seq[pieceOwners] {
	women := make([][]int, len(t.Pieces))
	for n, p := range t.Pieces {
		women[n] = t.womenOf(p)
	}
	return func(yield func(pieceOwners) bool) {
		var owners pieceOwners
		var choose func(piece int) bool
		choose = func(piece int) bool {
			if piece == len(women) {
				return yield(owners)
			}
			for _, woman := range women[piece] {
				owners[piece] = woman
				if !choose(piece + 1) {
					return false
				}
			}
			return true
		}
		choose(0)
	}
}

// atWork is a table whose pieces have owners: own is how many each woman has.
type atWork struct {
	Table
	owners pieceOwners
	own    [api.MaxBundleWomen]int
}

func (t Table) work(owners pieceOwners) atWork {
	w := atWork{Table: t, owners: owners}
	for piece := range len(t.Pieces) {
		w.own[owners[piece]]++
	}
	return w
}

// truths gives the lexicographically first one first.
func (t Table) truths() iter.Seq[atWork] {
	return func(yield func(atWork) bool) {
		for owners := range t.allOwners() {
			if w := t.work(owners); w.isTruth() && !yield(w) {
				return
			}
		}
	}
}

func (t Table) hasTruth() bool {
	for range t.truths() {
		return true
	}
	return false
}

func (w atWork) isTruth() bool { return len(w.miscounted()) <= w.Wrong }

// miscounted returns the women who did, in increasing order.
func (w atWork) miscounted() []int {
	var wrong []int
	for n, woman := range w.Women {
		if !woman.Came.has(w.own[n]) {
			wrong = append(wrong, n)
		}
	}
	return wrong
}

// astray returns the pieces that are, in increasing order.
func (w atWork) astray() []int {
	var astray []int
	for n, p := range w.Pieces {
		if w.owners[n] != p.Bundle {
			astray = append(astray, n)
		}
	}
	return astray
}

func (w atWork) manyAstray() int { return len(w.astray()) }

func (w atWork) manyMissedBy(woman int) int {
	many := 0
	for _, piece := range w.astray() {
		if w.owners[piece] == woman {
			many++
		}
	}
	return many
}
