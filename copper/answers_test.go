package copper_test

import (
	"slices"
	"testing"

	"posser/api"
	"posser/copper"
)

const (
	always  = copper.Always
	never   = copper.Never
	perhaps = copper.Perhaps
)

// answers are what the calls return of coppers that have a truth.
type answers struct {
	hot, left []copper.Range
	keeps     []int
	lacks     int // -1: there is no hour that may lack
	spare     []int
	kept      int // whether the promises are kept with none more
	least     []int
	isShort   bool // there is no sure coal
}

// ask calls all that needs a truth; Spare must be short if the promises are not kept always, and there alone.
func ask(t *testing.T, c copper.Copper) answers {
	t.Helper()
	ok := func(call string, e api.Errno) {
		t.Helper()
		if e != api.OK {
			t.Fatalf("%s of %v: %v", call, c, e)
		}
	}
	var a answers
	var e api.Errno
	a.hot, a.left, e = copper.Bounds(c)
	ok("Bounds", e)
	a.keeps, e = copper.Keeps(c)
	ok("Keeps", e)
	a.kept, e = copper.More(c, make([]int, c.Last+1))
	ok("More", e)
	a.lacks, e = copper.Lacks(c)
	if e == api.ErrNone && a.lacks == 0 {
		a.lacks, e = -1, api.OK
	}
	ok("Lacks", e)
	for hour := range c.Last + 1 {
		n, e := copper.Spare(c, hour)
		if a.kept != always && e == api.ErrShort && n == 0 {
			continue
		}
		ok("Spare", e)
		a.spare = append(a.spare, n)
	}
	if len(a.spare) > 0 && (a.kept != always || len(a.spare) <= c.Last) {
		t.Fatalf("Spare of %v: %v, though the promises are kept %d", c, a.spare, a.kept)
	}
	a.least, e = copper.Least(c)
	if e == api.ErrShort && len(a.least) == 0 {
		a.isShort, e = true, api.OK
	}
	ok("Least", e)
	return a
}

func leave(t *testing.T, c copper.Copper) []int {
	t.Helper()
	l, e := copper.Leave(c)
	if e != api.OK {
		t.Fatalf("Leave of %v: %v", c, e)
	}
	return l
}

func more(t *testing.T, c copper.Copper, l ...int) int {
	t.Helper()
	v, e := copper.More(c, l)
	if e != api.OK {
		t.Fatalf("More of %v, %v: %v", c, l, e)
	}
	return v
}

// Each row of the chapter's table of examples.
func TestExamples(t *testing.T) {
	if n := len(allTruths(example())); n != 18 {
		t.Errorf("%d truths", n)
	}
	if hot, left, e := copper.Play(example(), truth(10, 3, 4, 2)); !slices.Equal(hot, list(6, 4, 2)) || !slices.Equal(left, list(12, 10, 0)) || e != api.OK {
		t.Errorf("Play: %v, %v, %v", hot, left, e)
	}
	a := ask(t, example())
	if !slices.Equal(a.hot, ranges(6, 7, 4, 6, 2, 4)) || !slices.Equal(a.left, ranges(12, 17, 10, 17, 0, 9)) {
		t.Errorf("Bounds: %v", a)
	}
	if !slices.Equal(a.keeps, list(always, always, always)) || a.lacks != -1 {
		t.Errorf("Keeps, Lacks: %v", a)
	}
	if b := ask(t, promised(3, 2, 3)); !slices.Equal(b.keeps, list(always, always, perhaps)) || b.lacks != 2 || len(b.spare) != 0 {
		t.Errorf("Keeps, Lacks, Spare with Want 3, 2, 3: %v", b)
	}
	if v, w := more(t, example(), 0, 0, 1), more(t, example(), 2, 1, 0); v != perhaps || w != never {
		t.Errorf("More: %d, %d", v, w)
	}
	if !slices.Equal(a.spare, list(0, 0, 0)) || !slices.Equal(a.least, list(1, 1, 1)) {
		t.Errorf("Spare, Least: %v", a)
	}
	if b := ask(t, promised(3, 2, 9)); !slices.Equal(b.least, list(1, 2, 3)) {
		t.Errorf("Least with Want 3, 2, 9: %v", b)
	}
	if b := ask(t, example(reading(0, 6, 6))); !slices.Equal(b.hot, ranges(6, 6, 4, 5, 2, 3)) || !slices.Equal(b.left, ranges(12, 15, 10, 14, 0, 6)) {
		t.Errorf("Bounds with the reading 0: %v", b)
	}
	if b := ask(t, example(reading(0, 6, 6), reading(2, 3, 3))); b.spare[2] != 1 {
		t.Errorf("Spare with the reading 1: %v", b)
	}
	if n, e := copper.First(false2()); n != 2 || e != api.OK {
		t.Errorf("First: %d, %v", n, e)
	}
	if l := leave(t, false2()); !slices.Equal(l, list(0)) {
		t.Errorf("Leave: %v", l)
	}
}

// P2.1: Play and ProveTruth agree with the definitions for all truths.
func TestPlayAndProveTruth(t *testing.T) {
	for _, c := range append(many(200), full()) {
		if e := copper.CheckCopper(c); e != api.OK {
			t.Fatalf("CheckCopper of %v: %v", c, e)
		}
		for _, one := range allTruths(c) {
			want := day(c, c.Coal, c.Want, one)
			if hot, left, e := copper.Play(c, one); !slices.Equal(hot, want.hot) || !slices.Equal(left, want.left) || e != api.OK {
				t.Fatalf("Play of %v, %v: %v, %v, %v; not %v", c, one, hot, left, e, want)
			}
			if is := copper.ProveTruth(c, one); is != areRight(c, one, 0) {
				t.Fatalf("ProveTruth of %v, %v: %v", c, one, is)
			}
		}
	}
}

// P2.1: the heat of an hour, by hand.
func TestPlayAtItsEdges(t *testing.T) {
	for _, x := range []struct {
		name      string
		to        func(c *copper.Copper)
		of        copper.Truth
		hot, left []int
	}{
		{"nothing else", func(c *copper.Copper) {}, truth(12, 2, 4, 0), list(7, 6, 4), list(17, 17, 9)},
		{"a bucket less than is hot", func(c *copper.Copper) { c.Want[0] = 5 }, truth(10, 3, 4, 2), list(6, 2, 0), list(4, 2, 0)},
		{"all that is hot", func(c *copper.Copper) { c.Want[0] = 6 }, truth(10, 3, 4, 2), list(6, 1, 0), list(0, 0, 0)},
		{"a bucket more than is hot", func(c *copper.Copper) { c.Want = list(7, 1, 0) }, truth(10, 3, 4, 2), list(6, 1, 0), list(0, 2, 0)},
		{"what is not a whole bucket is not left if a promise is not kept", func(c *copper.Copper) { c.Want = list(7, 0, 0) }, truth(10, 2, 4, 0), list(6, 1, 1), list(0, 6, 6)},
		{"what is not a whole bucket is left if it is kept", func(c *copper.Copper) { c.Want = list(6, 0, 0) }, truth(10, 2, 4, 0), list(6, 1, 1), list(1, 7, 7)},
		{"no more heat than the coppers hold", func(c *copper.Copper) { c.Most = 20 }, truth(12, 2, 4, 0), list(4, 3, 1), list(6, 6, 0)},
		{"as much heat as they hold", func(c *copper.Copper) { c.Most = 31 }, truth(12, 2, 4, 0), list(7, 6, 4), list(17, 17, 9)},
		{"a bit more heat than they hold", func(c *copper.Copper) { c.Most = 30 }, truth(12, 2, 4, 0), list(7, 6, 4), list(16, 16, 8)},
		{"they hold none", func(c *copper.Copper) { c.Start, c.Most, c.Want = 0, 0, list(0, 0, 0) }, truth(12, 2, 4, 0), list(0, 0, 0), list(0, 0, 0)},
		{"all is taken by the weather", func(c *copper.Copper) { c.Coal, c.Loss[0] = list(0, 0, 3), to(50, 50) }, truth(10, 50, 4, 1), list(0, 0, 7), list(0, 0, 21)},
		{"just all is taken by the weather", func(c *copper.Copper) { c.Coal, c.Loss[0], c.Want = list(0, 2, 0), to(7, 7), list(0, 0, 0) }, truth(10, 7, 4, 0), list(0, 4, 4), list(0, 16, 16)},
		{"no coal", func(c *copper.Copper) { c.Coal, c.Want = list(0, 0, 0), list(0, 0, 0) }, truth(12, 2, 4, 0), list(1, 0, 0), list(5, 1, 1)},
		{"buckets of 1", func(c *copper.Copper) { c.Per = 1 }, truth(10, 3, 4, 2), list(24, 27, 23), list(21, 25, 21)},
	} {
		c := example()
		x.to(&c)
		if hot, left, e := copper.Play(c, x.of); !slices.Equal(hot, x.hot) || !slices.Equal(left, x.left) || e != api.OK {
			t.Errorf("Play with %s: %v, %v, %v", x.name, hot, left, e)
		}
	}
}

// P2.1: what is a truth, by hand. Example 2 of the document is in the hour 0 of the first one.
func TestProveTruthAtItsEdges(t *testing.T) {
	for _, x := range []struct {
		c    copper.Copper
		of   copper.Truth
		want bool
	}{
		{example(reading(0, 6, 6)), truth(10, 3, 4, 2), true}, // the heat 24
		{example(reading(0, 6, 6)), truth(12, 2, 4, 0), false},
		{example(reading(0, 6, 7)), truth(12, 2, 4, 0), true},
		{example(reading(0, 7, 9)), truth(12, 2, 4, 0), true},
		{example(reading(0, 8, 9)), truth(12, 2, 4, 0), false},
		{example(reading(0, 0, 6)), truth(12, 2, 4, 0), false},
		{example(reading(0, 7, 7), reading(2, 3, 3)), truth(12, 2, 4, 0), false},
		{example(), truth(9, 3, 4, 2), false},
		{example(), truth(13, 3, 4, 2), false},
		{example(), truth(10, 4, 4, 2), false},
		{example(), truth(10, 3, 4, 3), false},
		{example(), truth(10, 3, 4), false},
		{example(), truth(10, 3, 4, 2, 0), false},
		{example(), truth(10), false},
		{false2(), truth(10, 3, 4, 2), false},
		{small(), truth(0, 0), true},
		{small(), truth(0, 1), false},
		{small(), truth(1, 0), false},
		{copper.Copper{}, truth(0), false},
		{copper.Copper{}, truth(0, 0), false},
	} {
		if is := copper.ProveTruth(x.c, x.of); is != x.want {
			t.Errorf("ProveTruth of %v, %v: %v", x.c, x.of, is)
		}
	}
}

// P2.2, P2.3, P2.4: what is returned is what the definitions say over all truths.
func TestAnswersOverAllTruths(t *testing.T) {
	seen := map[int]int{}
	for _, c := range append(truthful(400), full()) {
		all, a := truths(c), ask(t, c)
		if len(a.hot) != c.Last+1 || len(a.left) != c.Last+1 || len(a.keeps) != c.Last+1 {
			t.Fatalf("lengths for %v: %v", c, a)
		}
		lacks := -1
		for hour := range c.Last + 1 {
			if want := bounds(all, func(of copper.Truth) int { return day(c, c.Coal, c.Want, of).hot[hour] }); a.hot[hour] != want {
				t.Errorf("Bounds of %v: %v; the hour %d has %v hot", c, a.hot, hour, want)
			}
			if want := bounds(all, func(of copper.Truth) int { return day(c, c.Coal, c.Want, of).left[hour] }); a.left[hour] != want {
				t.Errorf("Bounds of %v: %v; the hour %d has %v left", c, a.left, hour, want)
			}
			want := verdict(all, func(of copper.Truth) bool { return day(c, c.Coal, c.Want, of).kept[hour] })
			if a.keeps[hour] != want {
				t.Errorf("Keeps of %v: %v; the hour %d is %d", c, a.keeps, hour, want)
			}
			if want != always && lacks < 0 {
				lacks = hour
			}
			seen[want]++
		}
		if a.lacks != lacks {
			t.Errorf("Lacks of %v: %d, not %d", c, a.lacks, lacks)
		}
		for hour := range a.spare {
			want := 0
			for n := range 21 {
				if verdict(all, func(of copper.Truth) bool { return areKept(c, c.Coal, plus(c.Want, only(c, hour, n)), of) }) == always {
					want = n
				}
			}
			if a.spare[hour] != want {
				t.Errorf("Spare of %v, %d: %d, not %d", c, hour, a.spare[hour], want)
			}
		}
	}
	if seen[always] < 100 || seen[never] < 100 || seen[perhaps] < 100 {
		t.Errorf("the coppers do not try all verdicts: %v", seen)
	}
}

// P2.4: More, over all truths.
func TestMoreOverAllTruths(t *testing.T) {
	seen := map[int]int{}
	d := &dice{state: 11}
	for _, c := range append(truthful(300), full()) {
		all := truths(c)
		for i := range 6 {
			l := make([]int, c.Last+1)
			for hour := range l {
				if i > 0 && d.below(3) == 0 {
					l[hour] = d.below(3)
				}
			}
			want := verdict(all, func(of copper.Truth) bool { return areKept(c, c.Coal, plus(c.Want, l), of) })
			if v := more(t, c, l...); v != want {
				t.Errorf("More of %v, %v: %d, not %d", c, l, v, want)
			}
			seen[want]++
		}
	}
	if seen[always] < 50 || seen[never] < 50 || seen[perhaps] < 50 {
		t.Errorf("the coppers do not try all verdicts: %v", seen)
	}
}

// P2.2: the bounds are those of the truths in which all readings are right.
func TestBoundsWithReadings(t *testing.T) {
	for _, x := range []struct {
		readings  []copper.Reading
		hot, left []copper.Range
	}{
		{nil, ranges(6, 7, 4, 6, 2, 4), ranges(12, 17, 10, 17, 0, 9)},
		{[]copper.Reading{reading(0, 6, 6), reading(2, 3, 3)}, ranges(6, 6, 5, 5, 3, 3), ranges(14, 15, 13, 14, 4, 6)},
		{[]copper.Reading{reading(2, 3, 4)}, ranges(6, 7, 5, 6, 3, 4), ranges(14, 17, 13, 17, 4, 9)},
		{[]copper.Reading{reading(2, 4, 999)}, ranges(7, 7, 6, 6, 4, 4), ranges(16, 17, 16, 17, 8, 9)},
		{[]copper.Reading{reading(1, 0, 999)}, ranges(6, 7, 4, 6, 2, 4), ranges(12, 17, 10, 17, 0, 9)},
	} {
		c := example(x.readings...)
		if a := ask(t, c); !slices.Equal(a.hot, x.hot) || !slices.Equal(a.left, x.left) {
			t.Errorf("Bounds of %v: %v", c, a)
		}
	}
}

// P2.3, P2.4: as many as are hot are kept, and one more is not.
func TestPromisesAtTheirEdges(t *testing.T) {
	for _, x := range []struct{ start, want, keeps, lacks, spare int }{
		{0, 0, always, -1, 0},
		{0, 1, never, 0, -1},
		{3, 0, always, -1, 0},
		{3, 1, never, 0, -1},
		{4, 0, always, -1, 1},
		{4, 1, always, -1, 0},
		{7, 1, always, -1, 0},
		{7, 2, never, 0, -1},
		{8, 2, always, -1, 0},
		{60, 15, always, -1, 0},
		{60, 16, never, 0, -1},
		{60, 0, always, -1, 15},
	} {
		c := exact(x.start, x.want)
		a := ask(t, c)
		if !slices.Equal(a.keeps, list(x.keeps)) || a.lacks != x.lacks || a.kept != x.keeps {
			t.Errorf("Keeps, Lacks, More of %v: %v", c, a)
		}
		if x.spare < 0 != (len(a.spare) == 0) || x.spare >= 0 && a.spare[0] != x.spare {
			t.Errorf("Spare of %v: %v", c, a)
		}
	}
}

// P2.3, P2.4: an hour after one whose promise is not kept may have its own kept; all are kept only if each one is.
func TestPromisesOfSeveralHours(t *testing.T) {
	for _, x := range []struct {
		c     copper.Copper
		keeps []int
		lacks int
		kept  int
	}{
		{promised(7, 2, 2), list(perhaps, perhaps, never), 0, never},
		{promised(8, 0, 0), list(never, always, always), 0, never},
		{promised(3, 5, 0), list(always, perhaps, always), 1, perhaps},
		{promised(0, 0, 0), list(always, always, always), -1, always},
		{promised(20, 20, 20), list(never, never, never), 0, never},
	} {
		if a := ask(t, x.c); !slices.Equal(a.keeps, x.keeps) || a.lacks != x.lacks || a.kept != x.kept {
			t.Errorf("Keeps, Lacks, More of %v: %v", x.c, a)
		}
	}
}

// P2.4: at most MaxCopperWant buckets are spare, and readings are not asked again with more promised.
func TestSpareAtItsEdges(t *testing.T) {
	plenty := func(start, want int) copper.Copper {
		c := exact(start, want)
		c.Most, c.Per = 999, 1
		return c
	}
	for _, x := range []struct {
		c    copper.Copper
		want []int
	}{
		{plenty(19, 0), list(19)},
		{plenty(20, 0), list(20)},
		{plenty(21, 0), list(20)},
		{plenty(999, 20), list(20)},
		{plenty(39, 20), list(19)},
		{promised(3, 2, 0), list(2, 2, 2)},
		{promised(0, 0, 0), list(6, 7, 7)},
		{example(reading(0, 6, 6), reading(2, 3, 3)), list(1, 1, 1)},
		{small(), list(0)},
	} {
		if a := ask(t, x.c); !slices.Equal(a.spare, x.want) {
			t.Errorf("Spare of %v: %v", x.c, a.spare)
		}
	}
	c := example(reading(2, 3, 3)) // what is hot in the hour 2 would be less with more promised before it
	if v := more(t, c, 20, 0, 0); v != never {
		t.Errorf("More with a reading of what is promised: %d", v)
	}
	if v := more(t, c, 0, 1, 0); v != always {
		t.Errorf("More with a reading of what is promised: %d", v)
	}
}

// P2.5: the least coal, and what ProveCoal says of all coal.
func TestLeastAndProveCoal(t *testing.T) {
	short, full := 0, 0
	for _, c := range truthful(150) {
		all, a := truths(c), ask(t, c)
		var least []int
		for _, coal := range allCoal(c) {
			is := isSure(c, coal, all)
			if is && least == nil {
				least = coal
			}
			for _, by := range list(-1, 0, 7) {
				if copper.ProveCoal(c, coal, sum(coal)+by) != (is && by >= 0) {
					t.Errorf("ProveCoal of %v, %v, %d", c, coal, sum(coal)+by)
				}
			}
		}
		if a.isShort != (least == nil) || !slices.Equal(a.least, least) {
			t.Errorf("Least of %v: %v, not %v", c, a.least, least)
		}
		if a.isShort {
			short++
		} else if sum(least) > 0 {
			full++
		}
	}
	if short < 10 || full < 10 {
		t.Errorf("the coppers do not try enough coal: %d, %d", short, full)
	}
}

// P2.5: by hand.
func TestLeastAtItsEdges(t *testing.T) {
	few := promised(3, 2, 2)
	few.Shovels, few.Coal = 1, list(1, 1, 0)
	none := promised(3, 2, 2)
	none.Shovels, none.Coal = 0, list(0, 0, 0)
	for _, x := range []struct {
		c     copper.Copper
		least []int
	}{
		{promised(0, 0, 0), list(0, 0, 0)},
		{promised(1, 0, 0), list(0, 0, 0)},
		{promised(2, 0, 0), list(1, 0, 0)},
		{promised(0, 0, 1), list(0, 0, 1)},
		{promised(5, 5, 5), list(2, 2, 3)},
		{promised(8, 0, 0), list(3, 0, 0)},
		{promised(9, 2, 2), nil},
		{promised(3, 2, 10), list(1, 3, 3)},
		{promised(3, 0, 6), list(1, 0, 3)},
		{promised(1, 6, 1), list(0, 3, 1)},
		{few, list(1, 1, 1)},
		{none, nil},
		{small(), list(0)},
		{example(reading(0, 7, 7)), list(1, 1, 1)},
		{exact(8, 2), list(0)},
		{exact(8, 3), nil},
	} {
		if a := ask(t, x.c); !slices.Equal(a.least, x.least) || a.isShort != (x.least == nil) {
			t.Errorf("Least of %v: %v", x.c, a.least)
		}
	}
	for _, x := range []struct {
		c    copper.Copper
		coal []int
		many int
		want bool
	}{
		{example(), list(1, 1, 1), 3, true},
		{example(), list(1, 1, 1), 2, false},
		{example(), list(1, 1, 0), 9, false},
		{example(), list(3, 3, 3), 9, true},
		{example(), list(3, 3, 4), 99, false},
		{example(), list(3, 3, -1), 99, false},
		{example(), list(3, 3), 99, false},
		{example(), list(3, 3, 3, 0), 99, false},
		{example(), nil, 99, false},
		{few, list(1, 1, 2), 99, false},
		{false2(), list(3, 3, 3), 99, false},
		{copper.Copper{}, nil, 99, false},
		{small(), list(0), 0, true},
		{small(), list(0), -1, false},
		{small(), list(1), 9, false},
	} {
		if copper.ProveCoal(x.c, x.coal, x.many) != x.want {
			t.Errorf("ProveCoal of %v, %v, %d", x.c, x.coal, x.many)
		}
	}
}

// P2.6: First and Leave are what the definitions say.
func TestFirstAndLeave(t *testing.T) {
	for _, c := range append(many(400), full()) {
		n := -1
		for i := range c.Readings {
			shorter := c
			shorter.Readings = c.Readings[:i+1]
			if len(truths(shorter)) == 0 {
				n = i
				break
			}
		}
		got, e := copper.First(c)
		if n < 0 && (got != 0 || e != api.ErrNone) || n >= 0 && (got != n || e != api.OK) {
			t.Errorf("First of %v: %d, %v; not %d", c, got, e, n)
		}
		all := sets(c)
		want := all[slices.IndexFunc(all, func(l []int) bool { return canLeave(c, l) })]
		if l := leave(t, c); !slices.Equal(l, want) {
			t.Errorf("Leave of %v: %v, not %v", c, l, want)
		}
	}
}

// P2.6: by hand, with readings of two hours in which from 6 to 7 and from 4 to 6 buckets are hot.
func TestFirstAndLeaveAtTheirEdges(t *testing.T) {
	for _, x := range []struct {
		readings []copper.Reading
		first    int
		e        api.Errno
		leave    []int
	}{
		{nil, 0, api.ErrNone, nil},
		{[]copper.Reading{reading(0, 6, 6)}, 0, api.ErrNone, nil},
		{[]copper.Reading{reading(0, 5, 5)}, 0, api.OK, list(0)},
		{[]copper.Reading{reading(0, 8, 999)}, 0, api.OK, list(0)},
		{[]copper.Reading{reading(0, 6, 7), reading(1, 6, 6), reading(2, 2, 2)}, 2, api.OK, list(1)},
		{[]copper.Reading{reading(0, 6, 6), reading(0, 7, 7)}, 1, api.OK, list(0)},
		{[]copper.Reading{reading(0, 6, 6), reading(0, 7, 7), reading(0, 7, 8)}, 1, api.OK, list(0)},
		{[]copper.Reading{reading(0, 7, 7), reading(0, 6, 6), reading(0, 7, 8)}, 1, api.OK, list(1)},
		{[]copper.Reading{reading(0, 7, 7), reading(0, 6, 7), reading(0, 6, 6), reading(1, 7, 7), reading(0, 5, 6)}, 2, api.OK, list(0, 3)},
		{[]copper.Reading{reading(2, 4, 4), reading(0, 6, 6)}, 1, api.OK, list(0)},
		{[]copper.Reading{reading(1, 9, 9), reading(0, 6, 6), reading(0, 7, 7)}, 0, api.OK, list(0, 1)},
		{[]copper.Reading{reading(0, 0, 0), reading(1, 9, 9), reading(2, 9, 9), reading(0, 1, 1), reading(1, 8, 8)}, 0, api.OK, list(0, 1, 2, 3, 4)},
		{[]copper.Reading{reading(0, 6, 6), reading(1, 4, 4), reading(2, 2, 2), reading(0, 0, 9), reading(2, 9, 9)}, 4, api.OK, list(4)},
	} {
		c := example(x.readings...)
		if n, e := copper.First(c); n != x.first || e != x.e {
			t.Errorf("First of %v: %d, %v", x.readings, n, e)
		}
		if l := leave(t, c); !slices.Equal(l, x.leave) {
			t.Errorf("Leave of %v: %v", x.readings, l)
		}
	}
}
