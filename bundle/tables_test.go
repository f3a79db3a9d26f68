package bundle_test

import (
	"slices"

	"posser/bundle"
)

// What is here makes tables, and says by the chapter's definitions alone what is so in them: slowly, and with nothing of the package but its types.

func list(l ...int) []int { return l }

func lists(l ...[]int) [][]int { return l }

func to(lo, hi int) bundle.Range { return bundle.Range{Lo: lo, Hi: hi} }

func woman(mark, lo, hi int) bundle.Woman { return bundle.Woman{Mark: mark, Came: to(lo, hi)} }

func piece(in int, marks ...int) bundle.Piece { return bundle.Piece{Marks: marks, Bundle: in} }

func move(piece, from, to int) bundle.Move { return bundle.Move{Piece: piece, From: from, To: to} }

// example is the table of the chapter's examples.
func example() bundle.Table {
	return bundle.Table{
		Women:  []bundle.Woman{woman(1, 2, 2), woman(1, 1, 2), woman(2, 1, 1)},
		Pieces: []bundle.Piece{piece(0, 1), piece(0, 1, 2), piece(1, 1), piece(1, 2)},
	}
}

// counted is the table of the examples with another Came of the women 0 and 2, and another Wrong.
func counted(first, last bundle.Range, wrong int) bundle.Table {
	t := example()
	t.Women[0].Came, t.Women[2].Came, t.Wrong = first, last, wrong
	return t
}

// false2 is the table of the examples with counts that have no truth.
func false2() bundle.Table { return counted(to(2, 2), to(2, 2), 0) }

// alike has women with the mark 0, who have these counts, and pieces in these bundles.
func alike(came []bundle.Range, wrong int, in ...int) bundle.Table {
	t := bundle.Table{Wrong: wrong}
	for _, r := range came {
		t.Women = append(t.Women, bundle.Woman{Came: r})
	}
	for _, n := range in {
		t.Pieces = append(t.Pieces, piece(n, 0))
	}
	return t
}

func ranges(l ...int) []bundle.Range {
	var out []bundle.Range
	for i := 0; i < len(l); i += 2 {
		out = append(out, to(l[i], l[i+1]))
	}
	return out
}

// full has as much of everything as is allowed, and 2000 owners.
func full() bundle.Table {
	return bundle.Table{
		Women:  []bundle.Woman{woman(8, 1, 3), woman(9, 2, 7), woman(8, 0, 1), woman(9, 3, 3), woman(9, 7, 7)},
		Pieces: []bundle.Piece{piece(0, 0, 8, 9), piece(1, 8, 9), piece(4, 8, 9), piece(2, 8), piece(3, 1, 2, 3, 4, 5, 6, 7, 8), piece(2, 8), piece(0, 8)},
		Wrong:  2,
	}
}

// copied is the table in memory of its own.
func copied(t bundle.Table) bundle.Table {
	t.Women, t.Pieces = slices.Clone(t.Women), slices.Clone(t.Pieces)
	for n := range t.Pieces {
		t.Pieces[n].Marks = slices.Clone(t.Pieces[n].Marks)
	}
	return t
}

// dice throws the same numbers in each run.
type dice struct{ state uint64 }

// below returns a number from 0 to n less 1.
func (d *dice) below(n int) int {
	d.state = d.state*6364136223846793005 + 1442695040888963407
	return int(d.state>>33) % n
}

// thrown is a table whose counts are as some owners have them; with noise some are not.
func (d *dice) thrown(noise bool) bundle.Table {
	t := bundle.Table{Wrong: d.below(5) / 2}
	for range 1 + d.below(5) {
		t.Women = append(t.Women, bundle.Woman{Mark: d.below(3)})
	}
	size := 1
	for range d.below(8) {
		p := piece(d.below(len(t.Women)))
		for mark := range 4 {
			if d.below(5) < 2 {
				p.Marks = append(p.Marks, mark)
			}
		}
		n := len(womenOf(t, p))
		if n == 0 || size*n > 150 { // so that the tests are soon done
			p.Marks = list(t.Women[d.below(len(t.Women))].Mark)
			n = len(womenOf(t, p))
		}
		if size*n > 300 {
			break
		}
		size *= n
		t.Pieces = append(t.Pieces, p)
	}
	d.count(&t, noise)
	return t
}

// count gives the women of the table what they have with some owners, and lays most pieces there.
func (d *dice) count(t *bundle.Table, noise bool) {
	all := allOwners(*t)
	some := all[d.below(len(all))]
	for n := range t.Women {
		lo, wide := own(*t, some, n), d.below(3)/2
		lo = max(lo-d.below(wide+1), 0)
		if noise && d.below(3) == 0 {
			lo = d.below(8)
		}
		t.Women[n].Came = to(lo, min(lo+wide, 7))
	}
	for n := range t.Pieces {
		if d.below(2) == 0 {
			t.Pieces[n].Bundle = some[n]
		}
	}
}

// many returns tables: those of the examples, full and empty ones, and thrown ones.
func many(n int) []bundle.Table {
	out := []bundle.Table{example(), counted(to(1, 1), to(1, 1), 0), false2(), counted(to(2, 2), to(0, 0), 0), counted(to(4, 4), to(0, 0), 0), counted(to(2, 2), to(0, 0), 1), {}, alike(ranges(0, 0, 1, 1), 0), alike(ranges(0, 0), 1)}
	d := &dice{state: 7}
	for i := range n {
		out = append(out, d.thrown(i%2 == 0))
	}
	return out
}

// truthful returns those of many tables that have a truth.
func truthful(n int) []bundle.Table {
	return slices.DeleteFunc(many(n), func(t bundle.Table) bool { return len(truths(t)) == 0 })
}

// womenOf returns the women of a piece.
func womenOf(t bundle.Table, p bundle.Piece) []int {
	var out []int
	for n, w := range t.Women {
		for _, mark := range p.Marks {
			if mark == w.Mark {
				out = append(out, n)
			}
		}
	}
	return out
}

// allOwners returns the owners, the lexicographically first ones first.
func allOwners(t bundle.Table) [][]int {
	out := [][]int{{}}
	for _, p := range t.Pieces {
		var longer [][]int
		for _, l := range out {
			for _, n := range womenOf(t, p) {
				longer = append(longer, append(slices.Clone(l), n))
			}
		}
		out = longer
	}
	return out
}

// own returns how many pieces the woman owns.
func own(t bundle.Table, owners []int, woman int) int {
	n := 0
	for _, owner := range owners {
		if owner == woman {
			n++
		}
	}
	return n
}

// ownAll returns how many pieces each woman owns.
func ownAll(t bundle.Table, owners []int) []int {
	var out []int
	for n := range t.Women {
		out = append(out, own(t, owners, n))
	}
	return out
}

// wrong returns the women who miscounted.
func wrong(t bundle.Table, owners []int) []int {
	var out []int
	for n, w := range t.Women {
		if own(t, owners, n) < w.Came.Lo || own(t, owners, n) > w.Came.Hi {
			out = append(out, n)
		}
	}
	return out
}

// truths returns the truths of the table.
func truths(t bundle.Table) [][]int {
	return slices.DeleteFunc(allOwners(t), func(owners []int) bool { return len(wrong(t, owners)) > t.Wrong })
}

// astray returns the pieces that are astray.
func astray(t bundle.Table, owners []int) []int {
	var out []int
	for n, owner := range owners {
		if t.Pieces[n].Bundle != owner {
			out = append(out, n)
		}
	}
	return out
}

// misses reports whether the woman misses something.
func misses(t bundle.Table, owners []int, woman int) bool {
	return slices.ContainsFunc(astray(t, owners), func(piece int) bool { return owners[piece] == woman })
}

// with returns the truths in which the woman owns the piece.
func with(all [][]int, piece, woman int) [][]int {
	var out [][]int
	for _, owners := range all {
		if owners[piece] == woman {
			out = append(out, owners)
		}
	}
	return out
}

// verdict returns in which of the truths something is so.
func verdict(all [][]int, is func(owners []int) bool) int {
	n := 0
	for _, owners := range all {
		if is(owners) {
			n++
		}
	}
	switch n {
	case len(all):
		return bundle.Always
	case 0:
		return bundle.Never
	}
	return bundle.Perhaps
}

// sets returns all increasing lists of women: shorter ones first, and those of a length lexicographically.
func sets(t bundle.Table) [][]int {
	var out [][]int
	for bits := range 1 << len(t.Women) {
		l := []int{}
		for n := range t.Women {
			if bits>>n&1 == 1 {
				l = append(l, n)
			}
		}
		out = append(out, l)
	}
	slices.SortFunc(out, func(a, b []int) int {
		if len(a) != len(b) {
			return len(a) - len(b)
		}
		return slices.Compare(a, b)
	})
	return out
}

// canLeave reports whether the counts of the women can be left out together.
func canLeave(t bundle.Table, set []int) bool {
	return slices.ContainsFunc(allOwners(t), func(owners []int) bool {
		return !slices.ContainsFunc(wrong(t, owners), func(n int) bool { return !slices.Contains(set, n) })
	})
}

// without is the table, in which nobody miscounted, without the counts of some women.
func without(t bundle.Table, set []int) bundle.Table {
	t = copied(t)
	t.Wrong = 0
	for _, n := range set {
		t.Women[n].Came = to(0, 7)
	}
	return t
}

// from returns the women from this one on.
func from(t bundle.Table, woman int) []int {
	var out []int
	for n := woman; n < len(t.Women); n++ {
		out = append(out, n)
	}
	return out
}

func sum(l []int) int {
	out := 0
	for _, n := range l {
		out += n
	}
	return out
}
