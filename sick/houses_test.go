package sick_test

import (
	"slices"

	"posser/bundle"
	"posser/sick"
)

// What is here makes houses, and says by the chapter's definitions alone what is so in them: slowly, and with nothing of the packages but their types.

func list(l ...int) []int { return l }

func lists(l ...[]int) [][]int { return l }

func to(lo, hi int) sick.Range { return sick.Range{Lo: lo, Hi: hi} }

func touch(a, b, lo, hi int) sick.Touch { return sick.Touch{A: a, B: b, Hour: to(lo, hi)} }

func boil(thing, hour int) sick.Boiling { return sick.Boiling{Thing: thing, Hour: hour} }

func carries(thing int) sick.Sign { return sick.Sign{Thing: thing, Carries: true} }

func free(thing int) sick.Sign { return sick.Sign{Thing: thing} }

func course(owners, hours []int) sick.Course { return sick.Course{Owners: owners, Hours: hours} }

func woman(mark, lo, hi int) bundle.Woman {
	return bundle.Woman{Mark: mark, Came: bundle.Range{Lo: lo, Hi: hi}}
}

func piece(in int, marks ...int) bundle.Piece { return bundle.Piece{Marks: marks, Bundle: in} }

// example is the house of the chapter's examples, with signs.
func example(signs ...sick.Sign) sick.House {
	return sick.House{
		Table: bundle.Table{
			Women:  []bundle.Woman{woman(1, 2, 2), woman(1, 1, 2), woman(2, 1, 1)},
			Pieces: []bundle.Piece{piece(0, 1), piece(0, 1, 2), piece(1, 1), piece(1, 2)},
		},
		Sick: list(2), Others: 1, Last: 2,
		Touches: []sick.Touch{touch(3, 4, 0, 1), touch(4, 0, 0, 1), touch(0, 1, 2, 2)},
		Signs:   signs,
	}
}

// boiled is the house of the examples with the thing 3 boiled in the hour 0, and with these women who are sick.
func boiled(women ...int) sick.House {
	h := example()
	h.Boiled, h.Sick = []sick.Boiling{boil(3, 0)}, women
	return h
}

// false2 is the house of the examples with signs that have no truth.
func false2() sick.House { return example(free(0), carries(1)) }

// plain has three women with a piece each, of whom the woman 0 is sick, two things besides, and one course if the hours of its touches are known.
func plain(last int, touches ...sick.Touch) sick.House {
	return sick.House{
		Table: bundle.Table{
			Women:  []bundle.Woman{woman(0, 1, 1), woman(1, 1, 1), woman(2, 1, 1)},
			Pieces: []bundle.Piece{piece(0, 0), piece(1, 1), piece(2, 2)},
		},
		Sick: list(0), Others: 2, Last: last, Touches: touches,
	}
}

// with is the house with these boilings besides.
func with(h sick.House, more ...sick.Boiling) sick.House {
	h = copied(h)
	h.Boiled = append(h.Boiled, more...)
	return h
}

// signed is the house with these signs besides.
func signed(h sick.House, more ...sick.Sign) sick.House {
	h = copied(h)
	h.Signs = append(h.Signs, more...)
	return h
}

// full has as much of everything as is allowed, and a truth.
func full() sick.House {
	return sick.House{
		Table: bundle.Table{
			Women:  []bundle.Woman{woman(1, 0, 2), woman(1, 0, 1), woman(1, 0, 1), woman(1, 1, 2), woman(2, 4, 7)},
			Pieces: []bundle.Piece{piece(0, 1), piece(0, 1, 2), piece(1, 2), piece(2, 2), piece(3, 2), piece(4, 2), piece(4, 1, 2)},
			Wrong:  1,
		},
		Sick: list(0, 3), Others: 3, Last: 5,
		Touches: []sick.Touch{touch(0, 7, 1, 5), touch(7, 2, 2, 5), touch(1, 8, 3, 3), touch(8, 3, 3, 3), touch(6, 9, 0, 0), touch(9, 4, 5, 5)},
		Boiled:  []sick.Boiling{boil(7, 0), boil(9, 1), boil(9, 1), boil(8, 5)},
		Signs:   []sick.Sign{free(9), free(5), carries(0), carries(7), free(3)},
	}
}

// copied is the house in memory of its own.
func copied(h sick.House) sick.House {
	h.Table.Women, h.Table.Pieces = slices.Clone(h.Table.Women), slices.Clone(h.Table.Pieces)
	for n := range h.Table.Pieces {
		h.Table.Pieces[n].Marks = slices.Clone(h.Table.Pieces[n].Marks)
	}
	h.Sick, h.Touches, h.Boiled, h.Signs = slices.Clone(h.Sick), slices.Clone(h.Touches), slices.Clone(h.Boiled), slices.Clone(h.Signs)
	return h
}

func things(h sick.House) int { return len(h.Table.Pieces) + h.Others }

// dice throws the same numbers in each run.
type dice struct{ state uint64 }

// below returns a number from 0 to n less 1.
func (d *dice) below(n int) int {
	d.state = d.state*6364136223846793005 + 1442695040888963407
	return int(d.state>>33) % n
}

// thrown is a house whose signs are as some course has them; with noise some are not.
func (d *dice) thrown(noise bool) sick.House {
	h := sick.House{Table: d.table(), Others: d.below(4), Last: d.below(6)}
	some := allOwners(h.Table)[0]
	for n := range h.Table.Women {
		if d.below(5) == 0 || len(some) > 0 && some[0] == n && d.below(8) > 0 {
			h.Sick = append(h.Sick, n)
		}
	}
	d.touch(&h)
	if things(h) == 0 {
		return h
	}
	for range d.below(9) / 4 {
		h.Boiled = append(h.Boiled, boil(d.below(things(h)), d.below(h.Last+1)))
	}
	all := allCourses(h)
	carry := played(h, all[d.below(len(all))])
	for range d.below(9) / 2 {
		n := d.below(things(h))
		h.Signs = append(h.Signs, sick.Sign{Thing: n, Carries: slices.Contains(carry, n) != (noise && d.below(3) == 0)})
	}
	return h
}

// table throws one that has a truth, and few owners, so that the tests are soon done.
func (d *dice) table() bundle.Table {
	t := bundle.Table{Wrong: d.below(4) / 3}
	for range 1 + d.below(4) {
		t.Women = append(t.Women, woman(d.below(3), 0, 7))
	}
	for range max(d.below(6), d.below(3)) {
		p := piece(d.below(len(t.Women)), t.Women[d.below(len(t.Women))].Mark)
		if d.below(3) == 0 {
			p.Marks = list(0, 1, 2)
		}
		t.Pieces = append(t.Pieces, p)
	}
	all := allOwners(t)
	some := all[d.below(len(all))]
	for n := range t.Women {
		own, wide := count(some, n), d.below(3)
		t.Women[n].Came = bundle.Range{Lo: max(own-d.below(wide+1), 0), Hi: min(own+wide, 7)}
	}
	return t
}

// touch gives the house touches, most of them of what was touched before; what is first is the piece 0.
func (d *dice) touch(h *sick.House) {
	size, touched := len(allOwners(h.Table)), list(0)
	for range d.below(10) {
		a, b := touched[d.below(len(touched))], d.below(things(*h)+1)
		lo := d.below(h.Last + 1)
		hi := min(lo+d.below(4), h.Last)
		if len(h.Touches) == 6 || a == b || max(a, b) >= things(*h) {
			continue
		}
		if size*(hi-lo+1) > 60 { // so that the tests are soon done
			hi = lo
		}
		size *= hi - lo + 1
		touched = append(touched, b, d.below(things(*h)))
		h.Touches = append(h.Touches, touch(a, b, lo, hi))
	}
}

// many returns houses: those of the examples, plain and empty ones, and thrown ones.
func many(n int) []sick.House {
	out := []sick.House{
		example(), example(free(0)), example(carries(1)), false2(), boiled(2), boiled(1, 2), boiled(), {}, {Others: 2, Last: 1, Touches: []sick.Touch{touch(0, 1, 0, 1)}},
		plain(0), plain(2, touch(0, 3, 0, 2), touch(3, 1, 0, 2)), plain(5, touch(0, 3, 0, 3), touch(3, 4, 1, 4), touch(4, 1, 2, 5)), example(carries(2), free(3), free(0)),
	}
	d := &dice{state: 7}
	for i := range n {
		out = append(out, d.thrown(i%2 == 0))
	}
	return out
}

// truthful returns those of many houses that have a truth.
func truthful(n int) []sick.House {
	return slices.DeleteFunc(many(n), func(h sick.House) bool { return len(truths(h)) == 0 })
}

// catching returns those of many houses that have a truth that is not safe.
func catching(n int) []sick.House {
	return slices.DeleteFunc(truthful(n), func(h sick.House) bool { return safe(h, truths(h), nil) })
}

func count(l []int, number int) int {
	n := 0
	for _, x := range l {
		if x == number {
			n++
		}
	}
	return n
}

// longer returns the lists with each of the numbers behind each of them.
func longer(lists [][]int, numbers []int) [][]int {
	var out [][]int
	for _, l := range lists {
		for _, n := range numbers {
			out = append(out, append(slices.Clone(l), n))
		}
	}
	return out
}

// allOwners returns the owners, truths of the table or not.
func allOwners(t bundle.Table) [][]int {
	out := lists(nil)
	for _, p := range t.Pieces {
		var women []int
		for n, w := range t.Women {
			if slices.Contains(p.Marks, w.Mark) {
				women = append(women, n)
			}
		}
		out = longer(out, women)
	}
	return out
}

// countedRight reports whether not more than Wrong women miscounted.
func countedRight(t bundle.Table, owners []int) bool {
	wrong := 0
	for n, w := range t.Women {
		if own := count(owners, n); own < w.Came.Lo || own > w.Came.Hi {
			wrong++
		}
	}
	return wrong <= t.Wrong
}

// allCourses returns the courses, truths of the house or not.
func allCourses(h sick.House) []sick.Course {
	hours := lists(nil)
	for _, x := range h.Touches {
		var l []int
		for n := x.Hour.Lo; n <= x.Hour.Hi; n++ {
			l = append(l, n)
		}
		hours = longer(hours, l)
	}
	var out []sick.Course
	for _, owners := range allOwners(h.Table) {
		if countedRight(h.Table, owners) {
			for _, l := range hours {
				out = append(out, course(owners, l))
			}
		}
	}
	return out
}

// played returns the things that carry a sickness at last, with these boilings besides.
func played(h sick.House, c sick.Course, more ...sick.Boiling) []int {
	carry := map[int]bool{}
	for n, owner := range c.Owners {
		if slices.Contains(h.Sick, owner) {
			carry[n] = true
		}
	}
	for hour := 0; hour <= h.Last; hour++ {
		for _, b := range slices.Concat(h.Boiled, more) {
			if b.Hour == hour {
				delete(carry, b.Thing)
			}
		}
		for n, x := range h.Touches {
			if c.Hours[n] != hour {
				continue
			}
			if carry[x.A] {
				carry[x.B] = true
			} else if carry[x.B] {
				carry[x.A] = true
			}
		}
	}
	var out []int
	for n := range things(h) {
		if carry[n] {
			out = append(out, n)
		}
	}
	return out
}

// wrong returns the signs that are not right in the course.
func wrong(h sick.House, c sick.Course) []int {
	at := played(h, c)
	var out []int
	for n, s := range h.Signs {
		if slices.Contains(at, s.Thing) != s.Carries {
			out = append(out, n)
		}
	}
	return out
}

// truths returns the truths of the house.
func truths(h sick.House) []sick.Course {
	return slices.DeleteFunc(allCourses(h), func(c sick.Course) bool { return len(wrong(h, c)) > 0 })
}

// caught returns the women who are not sick, but own a piece that carries a sickness at last, with these boilings besides.
func caught(h sick.House, c sick.Course, more ...sick.Boiling) []int {
	var out []int
	for _, thing := range played(h, c, more...) {
		if thing < len(c.Owners) && !slices.Contains(h.Sick, c.Owners[thing]) {
			out = append(out, c.Owners[thing])
		}
	}
	slices.Sort(out)
	return slices.Compact(out)
}

// safe reports whether all of the courses are, with these boilings besides.
func safe(h sick.House, all []sick.Course, more []sick.Boiling) bool {
	return !slices.ContainsFunc(all, func(c sick.Course) bool { return len(caught(h, c, more...)) > 0 })
}

// at returns the boilings of all these things in the hour.
func at(hour int, things []int) []sick.Boiling {
	var out []sick.Boiling
	for _, thing := range things {
		out = append(out, boil(thing, hour))
	}
	return out
}

// from returns the boilings of an order from the hour.
func from(hour int, order []int) []sick.Boiling {
	out := at(hour, order)
	for n := range out {
		out[n].Hour += n
	}
	return out
}

// sorted has shorter lists first, and those of a length lexicographically.
func sorted(l [][]int) [][]int {
	slices.SortFunc(l, func(a, b []int) int {
		if len(a) != len(b) {
			return len(a) - len(b)
		}
		return slices.Compare(a, b)
	})
	return l
}

// sets returns all increasing lists of the numbers below n.
func sets(n int) [][]int {
	var out [][]int
	for bits := range 1 << n {
		l := []int{}
		for i := range n {
			if bits>>i&1 == 1 {
				l = append(l, i)
			}
		}
		out = append(out, l)
	}
	return sorted(out)
}

// orders returns all orders from the hour.
func orders(h sick.House, hour int) [][]int {
	var all []int
	for n := range things(h) {
		all = append(all, n)
	}
	out := lists(nil)
	last := out
	for n := range 3 {
		if hour+n <= h.Last {
			last = longer(last, all)
			out = append(out, last...)
		}
	}
	return sorted(out)
}

// verdict returns in which of the truths the thing carries a sickness.
func verdict(h sick.House, all []sick.Course, thing int) int {
	n := 0
	for _, c := range all {
		if slices.Contains(played(h, c), thing) {
			n++
		}
	}
	switch n {
	case len(all):
		return sick.Always
	case 0:
		return sick.Never
	}
	return sick.Perhaps
}

// canLeave reports whether the signs can be left out together.
func canLeave(h sick.House, set []int) bool {
	return slices.ContainsFunc(allCourses(h), func(c sick.Course) bool {
		return !slices.ContainsFunc(wrong(h, c), func(n int) bool { return !slices.Contains(set, n) })
	})
}

// without is the house without some signs.
func without(h sick.House, set []int) sick.House {
	h = copied(h)
	var left []sick.Sign
	for n, s := range h.Signs {
		if !slices.Contains(set, n) {
			left = append(left, s)
		}
	}
	h.Signs = left
	return h
}

// before is the house with the signs before this one.
func before(h sick.House, sign int) sick.House {
	h.Signs = h.Signs[:sign]
	return h
}
