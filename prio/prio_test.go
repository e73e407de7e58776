package prio

import (
	"math"
	"slices"
	"sync"
	"testing"

	"coxswain/api"
)

// The chapter's way: Compare's turns are methods of what is held against another one.
var _ func() [2]func(rival, rival) int = turns

// The bounds, from the document.
const (
	bestTop  = 15
	fixedTop = 63
	dueTop   = 1 << 40
)

func best(level int) api.Prio  { return api.Prio{Class: 0, Level: level} }
func early(due int) api.Prio   { return api.Prio{Class: 1, Due: due} }
func fixed(level int) api.Prio { return api.Prio{Class: 2, Level: level} }

// may is the document's table of what may be: of each class the bounds of Level and of Due.
func may(p api.Prio) bool {
	for _, row := range []struct{ class, levels, dues int }{{0, bestTop, 0}, {1, 0, dueTop}, {2, fixedTop, 0}} {
		if p.Class == row.class {
			return p.Level >= 0 && p.Level <= row.levels && p.Due >= 0 && p.Due <= row.dues
		}
	}
	return false
}

// above is the document's words on which one is greater.
func above(a api.Prio, b api.Prio) bool {
	if a.Class != b.Class {
		return a.Class > b.Class
	}
	if a.Class == 1 {
		return a.Due < b.Due
	}
	return a.Level > b.Level
}

// order is what Compare is due to answer.
func order(a api.Prio, b api.Prio) int {
	switch {
	case above(a, b):
		return 1
	case above(b, a):
		return -1
	}
	return 0
}

// greatest is what Max is due to answer: the first that no other one is above.
func greatest(list []api.Prio) api.Prio {
	for _, p := range list {
		if !slices.ContainsFunc(list, func(other api.Prio) bool { return above(other, p) }) {
			return p
		}
	}
	panic("of some numbers one is the greatest")
}

// classes are the three, those beside them, and numbers that would be one of the three if their higher bits or their sign were lost.
func classes() []int {
	return []int{
		0, 1, 2, -1, -2, 3, 4, 7, 255, 256, 257, 258, -255, -254, 1 << 16, 1<<16 + 1, 1<<16 + 2,
		1 << 32, 1<<32 + 1, 1<<32 + 2, -1 << 32, -1<<32 + 1, math.MinInt, math.MinInt + 1, math.MinInt + 2, math.MaxInt,
	}
}

// levels are the bounds of both classes that have levels with what lies beside them, and numbers that would lie within if their higher bits or their sign were lost.
func levels() []int {
	return []int{
		0, 1, 2, 14, 15, 16, 17, 62, 63, 64, 65, -1, -2, -15, -16, -63, -64, 127, 128, 255, 256, 261, -256, -251,
		1 << 16, 1 << 32, 1<<32 + 5, -1 << 32, -1<<32 + 5, 1 << 40, math.MinInt, math.MinInt + 1, math.MinInt + 5, math.MaxInt - 1, math.MaxInt,
	}
}

// dues are likewise.
func dues() []int {
	return []int{
		0, 1, 2, 3, 9, 64, 1 << 24, 1 << 32, dueTop / 2, dueTop - 1, dueTop, dueTop + 1, 1 << 41, 1 << 62,
		-1, -2, -9, -1 << 32, -dueTop, -dueTop - 1, math.MinInt, math.MinInt + 1, math.MinInt + 9, math.MaxInt - 1, math.MaxInt,
	}
}

// all are the priorities of all these numbers.
func all(classes []int, levels []int, dues []int) []api.Prio {
	list := []api.Prio{}
	for _, class := range classes {
		for _, level := range levels {
			for _, due := range dues {
				list = append(list, api.Prio{Class: class, Level: level, Due: due})
			}
		}
	}
	return list
}

// few are priorities that may be and some that may not, of all kinds, with equal ones among them.
func few() []api.Prio {
	return all([]int{math.MinInt, -1, 0, 1, 2, 3, math.MaxInt}, []int{math.MinInt, -1, 0, 15, 63, math.MaxInt}, []int{math.MinInt, -1, 0, 3, dueTop, math.MaxInt})
}

// ladder is rising: each rung's priorities are equal ones, and above those of all rungs ahead.
func ladder() [][]api.Prio {
	list := [][]api.Prio{}
	for _, rung := range rungs() {
		row := []api.Prio{}
		for _, x := range rung {
			row = append(row, api.Prio{Class: x[0], Level: x[1], Due: x[2]})
		}
		list = append(list, row)
	}
	return list
}

// rungs are the ladder's, in numbers: Class, Level, Due.
func rungs() [][][3]int {
	const low, high = math.MinInt, math.MaxInt
	return [][][3]int{
		{{low, low, 0}, {low, low, high}},
		{{low, high, 0}, {low, high, low}},
		{{-1, 0, 0}, {-1, 0, 1}, {-1, 0, -1}},
		{{-1, 63, 0}},
		{{0, low, 0}, {0, low, 1}, {0, low, low}},
		{{0, low + 1, 0}},
		{{0, -1, 0}, {0, -1, high}},
		{{0, 0, 0}, {0, 0, 3}, {0, 0, -3}, {0, 0, high}, {0, 0, low}},
		{{0, 1, 0}, {0, 1, 1}},
		{{0, 14, 0}},
		{{0, 15, 0}, {0, 15, 9}},
		{{0, 16, 0}},
		{{0, high - 1, 0}},
		{{0, high, 0}, {0, high, low}},
		{{1, 0, high}, {1, 63, high}, {1, low, high}},
		{{1, 0, high - 1}},
		{{1, 0, dueTop + 1}, {1, high, dueTop + 1}},
		{{1, 0, dueTop}, {1, 1, dueTop}, {1, -1, dueTop}},
		{{1, 0, dueTop - 1}},
		{{1, 0, 1 << 32}},
		{{1, 0, 9}, {1, 5, 9}},
		{{1, 0, 3}, {1, 9, 3}, {1, high, 3}, {1, low, 3}},
		{{1, 0, 1}},
		{{1, 0, 0}, {1, 7, 0}, {1, -7, 0}},
		{{1, 0, -1}},
		{{1, 0, low + 1}, {1, low, low + 1}},
		{{1, 0, low}, {1, high, low}},
		{{2, low, 0}, {2, low, high}},
		{{2, -1, 0}},
		{{2, 0, 0}, {2, 0, 1}, {2, 0, high}, {2, 0, low}},
		{{2, 1, 0}, {2, 1, 9}},
		{{2, 62, 0}},
		{{2, 63, 0}, {2, 63, 5}, {2, 63, -5}},
		{{2, 64, 0}},
		{{2, 1 << 32, 0}},
		{{2, high, 0}, {2, high, low}},
		{{3, low, 0}, {3, low, 3}},
		{{3, 0, 0}},
		{{7, -9, 0}, {7, -9, 7}},
		{{7, -5, 0}},
		{{1<<32 + 1, 0, 9}, {1<<32 + 1, 0, 3}},
		{{1<<32 + 1, 1, 9}, {1<<32 + 1, 1, 3}},
		{{high, low, low}, {high, low, high}},
		{{high, high, low}, {high, high, high}},
	}
}

// P7.1: the document's examples.
func TestExamples(t *testing.T) {
	if got := Compare(api.Prio{Class: api.Fixed}, api.Prio{Class: api.Early, Due: 3}); got != 1 {
		t.Errorf("Compare(Fixed 0, Early due 3): %d, not 1", got)
	}
	if got := Compare(api.Prio{Class: api.Early, Due: 3}, api.Prio{Class: api.Early, Due: 9}); got != 1 {
		t.Errorf("Compare(Early due 3, Early due 9): %d, not 1", got)
	}
}

// P7.1: May, of each level and some dues of each class, and at each bound, written out.
func TestMay(t *testing.T) {
	for level := range 16 {
		if !May(best(level)) {
			t.Errorf("May(%v): false", best(level))
		}
	}
	for level := range 64 {
		if !May(fixed(level)) {
			t.Errorf("May(%v): false", fixed(level))
		}
	}
	for _, due := range []int{0, 1, 2, 15, 16, 63, 64, 4096, 1<<24 - 1, 1 << 24, 1 << 32, dueTop - 1, dueTop} {
		if !May(early(due)) {
			t.Errorf("May(%v): false", early(due))
		}
	}
	for _, p := range []api.Prio{
		best(-1), best(16), best(17), best(63), best(math.MinInt), best(math.MaxInt), best(1 << 32), best(-256),
		fixed(-1), fixed(64), fixed(65), fixed(math.MinInt), fixed(math.MaxInt), fixed(1 << 32), fixed(-256),
		early(-1), early(dueTop + 1), early(math.MinInt), early(math.MaxInt),
		{Class: -1}, {Class: 3}, {Class: math.MinInt}, {Class: math.MaxInt}, {Class: 1 << 32}, {Class: 256},
	} {
		if May(p) {
			t.Errorf("May(%v): true", p)
		}
	}
}

// P7.1: May wants 0 of the number that a class has no use for.
func TestMayWantsZeros(t *testing.T) {
	for _, x := range append(levels(), dues()...) {
		if x == 0 {
			continue
		}
		for _, p := range []api.Prio{
			{Class: 0, Level: 0, Due: x}, {Class: 0, Level: 15, Due: x}, {Class: 2, Level: 0, Due: x}, {Class: 2, Level: 63, Due: x},
			{Class: 1, Level: x, Due: 0}, {Class: 1, Level: x, Due: 7}, {Class: 1, Level: x, Due: dueTop},
		} {
			if May(p) {
				t.Errorf("May(%v): true", p)
			}
		}
	}
}

// P7.1: May, of all numbers of all kinds with one another.
func TestMayOfAll(t *testing.T) {
	for _, p := range all(classes(), levels(), dues()) {
		if got := May(p); got != may(p) {
			t.Errorf("May(%v): %t", p, got)
		}
	}
	for class := -3; class <= 6; class++ {
		for level := -70; level <= 300; level++ {
			for _, due := range []int{-1, 0, 1, level} {
				p := api.Prio{Class: class, Level: level, Due: due}
				if got := May(p); got != may(p) {
					t.Errorf("May(%v): %t", p, got)
				}
			}
		}
	}
}

// P7.1: Compare, of rungs that are written out one above another; what is not looked at makes nobody greater.
func TestCompareOnTheLadder(t *testing.T) {
	list := ladder()
	for i, rung := range list {
		for k, other := range list {
			due := 0
			if i > k {
				due = 1
			} else if i < k {
				due = -1
			}
			for _, a := range rung {
				for _, b := range other {
					if got := Compare(a, b); got != due {
						t.Errorf("Compare(%v, %v): %d, not %d", a, b, got, due)
					}
				}
			}
		}
	}
}

// P7.1: Compare, of each two levels of a class and of each two dues.
func TestCompareInClass(t *testing.T) {
	for x := range 64 {
		for y := range 64 {
			due := 0
			if x > y {
				due = 1
			} else if x < y {
				due = -1
			}
			if got := Compare(fixed(x), fixed(y)); got != due {
				t.Errorf("Compare(%v, %v): %d, not %d", fixed(x), fixed(y), got, due)
			}
			if got := Compare(best(x), best(y)); got != due {
				t.Errorf("Compare(%v, %v): %d, not %d", best(x), best(y), got, due)
			}
			if got := Compare(early(x), early(y)); got != -due {
				t.Errorf("Compare(%v, %v): %d, not %d", early(x), early(y), got, -due)
			}
		}
	}
}

// P7.1: Compare, of all kinds of numbers with one another, those that may not be too; differences that wrap round are among them.
func TestCompareOfAny(t *testing.T) {
	wide := all(classes(), []int{0, 63, math.MinInt}, []int{0, 9, math.MaxInt})
	wide = append(wide, all([]int{0, 2, 3}, levels(), []int{0, 9})...)
	wide = append(wide, all([]int{1}, []int{0, 9}, dues())...)
	for _, a := range wide {
		for _, b := range wide {
			if got, due := Compare(a, b), order(a, b); got != due {
				t.Fatalf("Compare(%v, %v): %d, not %d", a, b, got, due)
			}
		}
	}
}

// The chapter's theorem: a total order, of any.
func TestTotalOrder(t *testing.T) {
	list := few()
	for _, a := range list {
		if got := Compare(a, a); got != 0 {
			t.Errorf("Compare(%v, itself): %d", a, got)
		}
		for _, b := range list {
			if x, y := Compare(a, b), Compare(b, a); x != -y || x < -1 || x > 1 {
				t.Errorf("Compare(%v, %v): %d, the other way round %d", a, b, x, y)
			}
		}
	}
	list = all([]int{0, 1, 2, 7}, []int{math.MinInt, 0, math.MaxInt}, []int{math.MinInt, 0, math.MaxInt})
	for _, a := range list {
		for _, b := range list {
			for _, c := range list {
				if Compare(a, b) >= 0 && Compare(b, c) >= 0 && Compare(a, c) != max(Compare(a, b), Compare(b, c)) {
					t.Errorf("%v, %v, %v: %d, %d, but %d", a, b, c, Compare(a, b), Compare(b, c), Compare(a, c))
				}
			}
		}
	}
}

// P7.1: Max of one alone, and of two in either order, is one of those handed in, as it was.
func TestMaxOfOneAndTwo(t *testing.T) {
	list := few()
	for _, a := range list {
		if Max(a) != a || Max(a, nil...) != a || Max(a, []api.Prio{}...) != a || Max(a, a) != a {
			t.Errorf("Max(%v): %v, %v, %v, with itself %v", a, Max(a), Max(a, nil...), Max(a, []api.Prio{}...), Max(a, a))
		}
		for _, b := range list {
			due := a
			if above(b, a) {
				due = b
			}
			if got := Max(a, b); got != due {
				t.Errorf("Max(%v, %v): %v, not %v", a, b, got, due)
			}
		}
	}
}

// P7.1: Max, of equal ones the first: those that may not be tell equal ones apart.
func TestMaxOfEqualOnes(t *testing.T) {
	for _, rung := range ladder() {
		for _, p := range rung {
			list := append([]api.Prio{p}, rung...)
			if got := Max(list[0], list[1:]...); got != p {
				t.Errorf("Max(%v): %v, not %v", list, got, p)
			}
			slices.Reverse(list)
			if got := Max(list[0], list[1:]...); got != rung[len(rung)-1] {
				t.Errorf("Max(%v): %v, not %v", list, got, rung[len(rung)-1])
			}
		}
	}
	x, y, z := api.Prio{Class: 2, Level: 5, Due: 1}, api.Prio{Class: 2, Level: 5, Due: 2}, api.Prio{Class: 2, Level: 5, Due: 3}
	if got := Max(fixed(4), early(0), x, best(15), y, fixed(4), z); got != x {
		t.Errorf("the first is %v: %v", x, got)
	}
	if got := Max(z, x, y); got != z {
		t.Errorf("the first is %v: %v", z, got)
	}
	if got := Max(fixed(4), z, y, x); got != z {
		t.Errorf("the first is %v: %v", z, got)
	}
}

// P7.1: Max, of all lists of up to five of some among which there are equal ones.
func TestMaxOfAllLists(t *testing.T) {
	some := []api.Prio{best(3), early(9), {Class: 1, Level: 4, Due: 9}, early(3), {Class: 1, Level: -4, Due: 3}, fixed(0), {Class: 2, Level: 0, Due: -1}}
	var walk func(list []api.Prio)
	walk = func(list []api.Prio) {
		if len(list) > 0 {
			if got, due := Max(list[0], list[1:]...), greatest(list); got != due {
				t.Errorf("Max(%v): %v, not %v", list, got, due)
			}
		}
		if len(list) < 5 {
			for _, p := range some {
				walk(append(slices.Clone(list), p))
			}
		}
	}
	walk(nil)
}

// P7.1: Max finds the greatest at each place, alone and with an equal one at each place behind it.
func TestMaxAtEachPlace(t *testing.T) {
	const size = 40
	for _, top := range []api.Prio{best(15), early(0), fixed(63), {Class: 3}, {Class: math.MaxInt, Level: math.MinInt}} {
		list := []api.Prio{}
		for k := range size {
			list = append(list, api.Prio{Class: 0, Level: k * 7 % 15, Due: k})
		}
		twin := top
		if twin.Class == api.Early {
			twin.Level = 8
		} else {
			twin.Due = 8
		}
		for i := range size {
			one := slices.Clone(list)
			one[i] = top
			if got := Max(one[0], one[1:]...); got != top {
				t.Errorf("%v at %d: %v", top, i, got)
			}
			for k := i + 1; k < size; k++ {
				two := slices.Clone(one)
				two[k] = twin
				if got := Max(two[0], two[1:]...); got != top {
					t.Errorf("%v at %d, %v at %d: %v", top, i, twin, k, got)
				}
				two[i], two[k] = twin, top
				if got := Max(two[0], two[1:]...); got != twin {
					t.Errorf("%v at %d, %v at %d: %v", twin, i, top, k, got)
				}
			}
		}
	}
}

// P7.1: Max of the whole ladder, rising, falling, and turned to begin at each of its priorities.
func TestMaxOfManyKinds(t *testing.T) {
	list := slices.Concat(ladder()...)
	for range list {
		list = append(list[1:], list[0])
		if got, due := Max(list[0], list[1:]...), greatest(list); got != due {
			t.Errorf("Max(%v, ..): %v, not %v", list[0], got, due)
		}
		back := slices.Clone(list)
		slices.Reverse(back)
		if got, due := Max(back[0], back[1:]...), greatest(back); got != due {
			t.Errorf("Max(%v, ..): %v, not %v", back[0], got, due)
		}
	}
}

// Max of a great list ends in a time that its size explains.
func TestMaxOfAGreatList(t *testing.T) {
	const size = 1 << 20
	list := make([]api.Prio, size)
	for k := range list {
		list[k] = early(size - k)
	}
	if got := Max(best(0), list...); got != early(1) {
		t.Errorf("rising: %v", got)
	}
	slices.Reverse(list)
	if got := Max(best(0), list...); got != early(1) {
		t.Errorf("falling: %v", got)
	}
	if got := Max(fixed(0), list...); got != fixed(0) {
		t.Errorf("the one ahead of them: %v", got)
	}
}

// R4: what is handed in to Max is not changed, and its spare room neither changed nor looked at.
func TestMaxLeavesTheList(t *testing.T) {
	some := slices.Concat(ladder()...)
	for size := range 9 {
		for turn := range len(some) {
			whole := []api.Prio{}
			for k := range 2 * size {
				whole = append(whole, some[(turn+k*5)%len(some)])
			}
			// The spare room holds one that is greater than all.
			whole = append(whole, api.Prio{Class: math.MaxInt, Level: math.MaxInt, Due: 1})
			was := slices.Clone(whole)
			more := whole[:size]
			first := some[(turn+3)%len(some)]
			due := greatest(append([]api.Prio{first}, was[:size]...))
			if got := Max(first, more...); got != due {
				t.Errorf("Max(%v, %v): %v, not %v", first, more, got, due)
			}
			if !slices.Equal(whole, was) {
				t.Fatalf("Max(%v, %v): the list became %v", first, was, whole)
			}
		}
	}
}

// R4, R5: nothing is kept: a list that is changed behind a call tells in the next one what it is then, and the earlier answer stays.
func TestMaxKeepsNothing(t *testing.T) {
	list := []api.Prio{best(1), early(9), best(2), early(4)}
	earlier := Max(best(0), list...)
	list[3] = fixed(7)
	if got := Max(best(0), list...); got != fixed(7) {
		t.Errorf("a greater one in the list: %v", got)
	}
	list[3], list[1] = best(3), best(4)
	if got := Max(best(0), list...); got != best(4) {
		t.Errorf("lesser ones in the list: %v", got)
	}
	if got := Max(best(0)); got != best(0) {
		t.Errorf("one alone behind these: %v", got)
	}
	if earlier != early(4) {
		t.Errorf("the earlier answer: %v", earlier)
	}
}

// R5: what is answered hangs on the arguments alone, in whatever order and from however many goroutines it is asked.
func TestAskedAtOneTime(t *testing.T) {
	list := few()
	var group sync.WaitGroup
	for worker := range 4 {
		group.Go(func() {
			for k := range list {
				a, b := list[(k*(2*worker+1))%len(list)], list[(k*5+worker)%len(list)]
				due := a
				if above(b, a) {
					due = b
				}
				if May(a) != may(a) || Compare(a, b) != order(a, b) || Max(a, a, b, a, b) != due {
					t.Errorf("of %v, %v: May %t, Compare %d, Max %v", a, b, May(a), Compare(a, b), Max(a, a, b, a, b))
				}
			}
		})
	}
	group.Wait()
}

// The chapter's way: Compare is handed on as a function value.
func TestHandedOn(t *testing.T) {
	steps := ladder()
	rising := slices.Concat(steps...)
	list := slices.Clone(rising)
	slices.Reverse(list)
	slices.SortFunc(list, Compare)
	for k := range list {
		if order(list[k], rising[k]) != 0 {
			t.Fatalf("sorted: at %d %v, not one like %v", k, list[k], rising[k])
		}
	}
	if got := slices.MaxFunc(rising, Compare); got != steps[len(steps)-1][0] {
		t.Errorf("the greatest: %v", got)
	}
	if got := slices.MinFunc(rising, Compare); got != rising[0] {
		t.Errorf("the least: %v", got)
	}
	for _, rung := range steps {
		k, ok := slices.BinarySearchFunc(rising, rung[0], Compare)
		if !ok || rising[k] != rung[0] {
			t.Errorf("%v is found at %d %t", rung[0], k, ok)
		}
	}
}
