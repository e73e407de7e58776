package rta

import (
	"math"
	"math/big"
	"math/rand"
	"slices"
	"sync"
	"testing"
)

// The chapter's way: what is summed comes in as a function value, and so does what a span needs.
var (
	_ func([]Part, func(Part) int) int     = sum
	_ func(int, func(int) int) (int, bool) = least
)

// From the document: the greatest number there is, and the greatest span that is tried.
const (
	most    = 1 << 40
	maxSpan = 4096
)

// clip is what chapter 1 calls clipped.
func clip(x int) int { return min(max(x, 0), most) }

// big numbers know no bounds: they tell what is due before it is clipped.

func wide(x int) *big.Int { return big.NewInt(int64(clip(x))) }

func narrow(x *big.Int) int {
	if x.Cmp(big.NewInt(most)) > 0 {
		return most
	}
	return int(x.Int64())
}

// dueWork tells what Work promises, in big numbers.
func dueWork(span int, parts []Part) int {
	sum := new(big.Int)
	for _, p := range parts {
		times, rest := new(big.Int).DivMod(wide(span), wide(max(p.Period, 1)), new(big.Int))
		if rest.Sign() > 0 {
			times.Add(times, big.NewInt(1))
		}
		sum.Add(sum, times.Mul(times, wide(p.Cost)))
	}
	return narrow(sum)
}

// counted tells what Work promises by going through the moments at which the parts come; of few moments only.
func counted(span int, parts []Part) int {
	total := 0
	for _, p := range parts {
		for now := 0; now < span; now += max(p.Period, 1) {
			total = clip(total + clip(p.Cost))
		}
	}
	return total
}

// job is what Response is asked of.
type job struct {
	own, block int
	parts      []Part
	most       int
}

func (j job) response() (int, bool) { return Response(j.own, j.block, j.parts, j.most) }

// needs tells, in big numbers, what the span has to reach.
func (j job) needs(span int) int {
	sum := new(big.Int).Add(wide(j.own), wide(j.block))
	return narrow(sum.Add(sum, wide(dueWork(span, j.parts))))
}

// tried tells what Response promises by trying each span.
func (j job) tried() (int, bool) {
	for span := 1; span <= min(clip(j.most), maxSpan); span++ {
		if span >= j.needs(span) {
			return span, true
		}
	}
	return 0, false
}

// played tells what Response promises by a processor that works a tick at a time, and stops at the end of a tick when nothing is left.
func (j job) played() (int, bool) {
	left := clip(clip(j.own) + clip(j.block))
	for now := 0; now < min(j.most, maxSpan); now++ {
		for _, p := range j.parts {
			if now%max(p.Period, 1) == 0 {
				left = clip(left + clip(p.Cost))
			}
		}
		left--
		if left <= 0 {
			return now + 1, true
		}
	}
	return 0, false
}

// holds looks whether Response answers what a processor tells.
func (j job) holds(t *testing.T) (int, bool) {
	t.Helper()
	got, ok := j.response()
	if want, may := j.played(); got != want || ok != may {
		t.Fatalf("Response(%d, %d, %v, %d): %d %t, not %d %t", j.own, j.block, j.parts, j.most, got, ok, want, may)
	}
	return got, ok
}

// worksAs looks whether Work answers want.
func worksAs(t *testing.T, span int, parts []Part, want int) {
	t.Helper()
	if got := Work(span, parts); got != want {
		t.Fatalf("Work(%d, %v): %d, not %d", span, parts, got, want)
	}
}

// grid is all parts of these periods and costs.
func grid(periods []int, costs []int) []Part {
	list := []Part{}
	for _, period := range periods {
		for _, cost := range costs {
			list = append(list, Part{period, cost})
		}
	}
	return list
}

// lists hands on all lists of up to n of these parts; a list is the caller's alone.
func lists(kinds []Part, n int, then func(parts []Part)) {
	var grow func(parts []Part)
	grow = func(parts []Part) {
		then(slices.Clone(parts))
		if len(parts) == n {
			return
		}
		for _, p := range kinds {
			grow(append(slices.Clone(parts), p))
		}
	}
	grow(nil)
}

// orders hands on parts in each order.
func orders(parts []Part, then func(parts []Part)) {
	var fill func(done []Part, left []Part)
	fill = func(done []Part, left []Part) {
		if len(left) == 0 {
			then(done)
		}
		for i, p := range left {
			fill(append(slices.Clone(done), p), slices.Delete(slices.Clone(left), i, i+1))
		}
	}
	fill(nil, parts)
}

// someParts is a list of up to n parts that take about half of the time mostly.
func someParts(r *rand.Rand, n int) []Part {
	parts := make([]Part, r.Intn(n+1))
	for i := range parts {
		period := 1 + r.Intn(1<<(3+r.Intn(10)))
		parts[i] = Part{period, r.Intn(2 + period/len(parts))}
	}
	return parts
}

func someJob(r *rand.Rand, n int) job {
	return job{r.Intn(1 << r.Intn(11)), r.Intn(1 << r.Intn(9)), someParts(r, n), 1 + r.Intn(1<<(2+r.Intn(13)))}
}

// The example of the chapter, and why 11 is not enough.
func TestExample(t *testing.T) {
	parts := []Part{{10, 2}, {15, 4}}
	if got, ok := Response(3, 2, parts, 100); got != 13 || !ok {
		t.Errorf("Response: %d %t, not 13 true", got, ok)
	}
	worksAs(t, 10, parts, 6)
	worksAs(t, 11, parts, 8)
	worksAs(t, 13, parts, 8)
}

// P16.1: Work of no parts, of one, and of several, about the multiples of their periods.
func TestWork(t *testing.T) {
	one := []Part{{10, 2}}
	two := []Part{{10, 2}, {15, 4}}
	three := []Part{{4, 1}, {6, 2}, {9, 5}}
	cases := []struct {
		span  int
		parts []Part
		want  int
	}{
		{0, nil, 0}, {1, nil, 0}, {-1, nil, 0}, {math.MaxInt, nil, 0}, {math.MaxInt, []Part{}, 0},
		{math.MinInt, one, 0}, {-11, one, 0}, {-10, one, 0}, {-1, one, 0}, {0, one, 0},
		{1, one, 2}, {2, one, 2}, {9, one, 2}, {10, one, 2}, {11, one, 4}, {12, one, 4},
		{19, one, 4}, {20, one, 4}, {21, one, 6}, {29, one, 6}, {30, one, 6}, {31, one, 8},
		{99, one, 20}, {100, one, 20}, {101, one, 22}, {4095, one, 820}, {4090, one, 818}, {4091, one, 820},
		{-5, two, 0}, {0, two, 0}, {1, two, 6}, {10, two, 6}, {11, two, 8}, {15, two, 8}, {16, two, 12},
		{20, two, 12}, {21, two, 14}, {30, two, 14}, {31, two, 20},
		{0, three, 0}, {1, three, 8}, {4, three, 8}, {5, three, 9}, {6, three, 9}, {7, three, 11}, {8, three, 11},
		{9, three, 12}, {10, three, 17}, {12, three, 17}, {13, three, 20}, {36, three, 41}, {37, three, 49},
		{7, []Part{{1, 1}}, 7}, {7, []Part{{1, 3}}, 21}, {7, []Part{{7, 7}}, 7}, {7, []Part{{6, 7}}, 14}, {7, []Part{{8, 7}}, 7},
		{7, []Part{{3, 2}, {3, 2}}, 12}, {7, []Part{{3, 2}, {3, 2}, {3, 2}}, 18},
	}
	for _, c := range cases {
		worksAs(t, c.span, c.parts, c.want)
	}
}

// P16.1: Work of periods and costs below 0 and of 0.
func TestWorkOfPartsThatAreNone(t *testing.T) {
	cases := []struct {
		span  int
		parts []Part
		want  int
	}{
		{7, []Part{{0, 2}}, 14}, {7, []Part{{-1, 2}}, 14}, {7, []Part{{-7, 2}}, 14}, {7, []Part{{math.MinInt, 2}}, 14},
		{0, []Part{{0, 2}}, 0}, {-7, []Part{{-7, 2}}, 0}, {-7, []Part{{-7, -2}}, 0}, {1, []Part{{0, 2}}, 2},
		{7, []Part{{3, 0}}, 0}, {7, []Part{{3, -1}}, 0}, {7, []Part{{3, math.MinInt}}, 0}, {7, []Part{{0, 0}}, 0},
		{7, []Part{{3, -5}, {3, 2}}, 6}, {7, []Part{{3, 2}, {3, -5}}, 6}, {7, []Part{{-3, -5}, {3, 2}, {0, 0}}, 6},
	}
	for _, c := range cases {
		worksAs(t, c.span, c.parts, c.want)
	}
}

// P16.1: Work of the greatest numbers: all that goes in is clipped, each product, and each sum.
func TestWorkIsClipped(t *testing.T) {
	cases := []struct {
		span  int
		parts []Part
		want  int
	}{
		{1, []Part{{1, most - 1}}, most - 1}, {1, []Part{{1, most}}, most}, {1, []Part{{1, most + 1}}, most}, {1, []Part{{1, math.MaxInt}}, most},
		{most - 1, []Part{{1, 1}}, most - 1}, {most, []Part{{1, 1}}, most}, {most + 1, []Part{{1, 1}}, most}, {math.MaxInt, []Part{{1, 1}}, most},
		{most + 7, []Part{{most, 3}}, 3}, {most, []Part{{most, 3}}, 3}, {most, []Part{{most - 1, 3}}, 6}, {math.MaxInt, []Part{{math.MaxInt, 3}}, 3},
		{math.MaxInt, []Part{{most + 1, 3}}, 3}, {1, []Part{{math.MaxInt, 3}}, 3}, {0, []Part{{math.MaxInt, math.MaxInt}}, 0},
		{1 << 20, []Part{{1, 1 << 20}}, most}, {1<<20 - 1, []Part{{1, 1 << 20}}, most - 1<<20}, {1 << 30, []Part{{1, 1 << 30}}, most},
		{1 << 32, []Part{{1, 1 << 32}}, most}, {1 << 21, []Part{{2, 1 << 20}}, most}, {1 << 21, []Part{{3, 1 << 20}}, 699051 << 20},
		{math.MaxInt, []Part{{1, math.MaxInt}, {1, math.MaxInt}}, most}, {1, []Part{{1, most}, {1, 1}}, most}, {1, []Part{{1, 1}, {1, most}}, most},
		{1, []Part{{1, most - 1}, {1, 1}}, most}, {1, []Part{{1, most - 2}, {1, 1}}, most - 1}, {1, []Part{{1, most / 2}, {1, most / 2}}, most},
		{1, []Part{{1, most}, {1, math.MinInt}}, most}, {1, []Part{{1, math.MinInt}, {1, most - 1}}, most - 1},
	}
	for _, c := range cases {
		worksAs(t, c.span, c.parts, c.want)
	}
}

// P16.1: Work of all spans and all lists of small parts, counted one coming at a time.
func TestWorkOfSmallLists(t *testing.T) {
	lists(grid([]int{-1, 0, 1, 2, 3, 5, 7}, []int{-1, 0, 1, 3}), 2, func(parts []Part) {
		for span := -3; span <= 31; span++ {
			worksAs(t, span, parts, counted(span, parts))
		}
	})
	lists(grid([]int{1, 2, 3, 4}, []int{0, 1, 2}), 4, func(parts []Part) {
		for span := range 14 {
			worksAs(t, span, parts, counted(span, parts))
		}
	})
}

// P16.1: Work about every multiple of one period that a response may lie at.
func TestWorkAboutMultiples(t *testing.T) {
	for _, period := range []int{1, 2, 3, 7, 10, 64, 100, 1000, 4095, 4096, 4097} {
		for times := range 1 + 5000/period {
			for beside := -1; beside <= 1; beside++ {
				span := times*period + beside
				worksAs(t, span, []Part{{period, 3}}, counted(span, []Part{{period, 3}}))
			}
		}
	}
}

// edges are the bounds, what lies just beside them, and numbers whose sums or products wrap round or just don't reach a bound.
var edges = []int{
	math.MinInt, -most - 1, -7, -1, 0, 1, 2, 3, 7, maxSpan - 1, maxSpan, maxSpan + 1,
	1<<20 - 1, 1 << 20, 1<<20 + 1, 1 << 31, 1 << 32, most/3 + 1, most/2 - 1, most / 2, most/2 + 1,
	most - 1, most, most + 1, 1 << 41, 1 << 62, math.MaxInt - 1, math.MaxInt,
}

// P16.1: Work of edges at each place.
func TestWorkOfEdges(t *testing.T) {
	for _, span := range edges {
		for _, p := range grid(edges, edges) {
			worksAs(t, span, []Part{p}, dueWork(span, []Part{p}))
		}
	}
	few := []int{math.MinInt, -1, 0, 1, 2, most/2 + 1, most - 1, most, math.MaxInt}
	lists(grid(few, few), 2, func(parts []Part) {
		for _, span := range few {
			worksAs(t, span, parts, dueWork(span, parts))
		}
	})
}

// P16.1: sums of clipped numbers are the same in each order of the parts.
func TestEachOrder(t *testing.T) {
	for _, parts := range [][]Part{
		{{10, 2}, {15, 4}, {4, 1}, {9, 0}, {-3, -5}},
		{{1, 1}, {2, 1}, {3, 1}, {5, 1}, {7, 1}, {11, 1}},
		{{7, 1}, {12, 3}, {20, 5}, {100, 9}, {0, 0}},
		{{1, math.MaxInt}, {1, most - 1}, {2, most / 2}, {0, math.MinInt}, {3, 1}},
		{{most, most}, {most - 1, 1}, {1, 0}, {math.MinInt, -1}},
	} {
		for _, span := range []int{-1, 0, 1, 4, 5, 10, 11, 60, 61, 4096, most, math.MaxInt} {
			want := dueWork(span, parts)
			orders(parts, func(turned []Part) { worksAs(t, span, turned, want) })
		}
		for own := range 12 {
			want, may := job{own, 3, parts, 500}.tried()
			orders(parts, func(turned []Part) {
				j := job{own, 3, turned, 500}
				if got, ok := j.holds(t); got != want || ok != may {
					t.Fatalf("%v: %d %t, not %d %t", j, got, ok, want, may)
				}
			})
		}
	}
}

// P16.1: Work of a great number of parts.
func TestWorkOfManyParts(t *testing.T) {
	worksAs(t, 1, slices.Repeat([]Part{{1, math.MaxInt}}, 1<<16), most)
	worksAs(t, 1, slices.Repeat([]Part{{1, 1 << 24}}, 1<<16), most)
	worksAs(t, 1, slices.Repeat([]Part{{1, 1 << 24}}, 1<<16-1), most-1<<24)
	worksAs(t, 7, slices.Repeat([]Part{{3, 2}, {5, -2}}, 1<<16), 6<<16)
}

// P16.1: Response, its answers reckoned by hand.
func TestResponse(t *testing.T) {
	two := []Part{{10, 2}, {15, 4}}
	turns := []Part{{7, 3}, {12, 3}}
	cases := []struct {
		job
		want int
		ok   bool
	}{
		// No parts: own and block alone.
		{job{3, 2, nil, 100}, 5, true}, {job{3, 2, []Part{}, 100}, 5, true}, {job{3, 2, nil, 5}, 5, true}, {job{3, 2, nil, 4}, 0, false},
		{job{3, 0, nil, 100}, 3, true}, {job{0, 3, nil, 100}, 3, true}, {job{2, 0, nil, 1}, 0, false}, {job{0, 2, nil, 1}, 0, false},
		// Parts that cost nothing: own and block alone.
		{job{3, 2, []Part{{1, 0}, {2, -9}}, 100}, 5, true}, {job{3, 2, []Part{{0, 0}}, 4}, 0, false},
		// It is 1, the least span that there is.
		{job{0, 0, nil, 1}, 1, true}, {job{0, 0, nil, 100}, 1, true}, {job{1, 0, nil, 1}, 1, true}, {job{0, 1, nil, 1}, 1, true}, {job{1, 0, nil, 100}, 1, true},
		{job{0, 0, []Part{{1, 1}}, 1}, 1, true}, {job{0, 0, []Part{{50, 1}}, 100}, 1, true}, {job{0, 0, []Part{{1, 1}, {1, 0}}, 9}, 1, true},
		{job{1, 0, []Part{{1, 0}}, 1}, 1, true}, {job{1, 1, nil, 1}, 0, false}, {job{1, 0, []Part{{50, 1}}, 1}, 0, false}, {job{0, 0, []Part{{50, 2}}, 1}, 0, false},
		// The parts come once.
		{job{3, 1, two, 100}, 10, true}, {job{3, 1, two, 10}, 10, true}, {job{3, 1, two, 9}, 0, false}, {job{1, 0, two, 100}, 7, true},
		{job{0, 0, two, 100}, 6, true}, {job{0, 0, two, 6}, 6, true}, {job{0, 0, two, 5}, 0, false},
		// Several turns: 11 and 13; 11, 14, 17 and 20; 5, 7, 8, 10, 12, 13 and 14.
		{job{3, 2, two, 100}, 13, true}, {job{3, 2, two, 13}, 13, true}, {job{3, 2, two, 12}, 0, false}, {job{2, 3, two, 11}, 0, false},
		{job{5, 0, turns, 100}, 20, true}, {job{5, 0, turns, 20}, 20, true}, {job{5, 0, turns, 19}, 0, false}, {job{5, 0, turns, 17}, 0, false}, {job{2, 3, turns, 20}, 20, true},
		{job{1, 0, []Part{{2, 1}, {7, 2}, {9, 1}}, 50}, 14, true}, {job{1, 0, []Part{{2, 1}, {7, 2}, {9, 1}}, 13}, 0, false},
		// Own and block count alike, and more of them takes a turn more.
		{job{0, 5, two, 100}, 13, true}, {job{5, 0, two, 100}, 13, true}, {job{7, 0, two, 100}, 15, true}, {job{7, 1, two, 100}, 20, true}, {job{7, 2, two, 100}, 23, true},
		// No span may be asked of.
		{job{0, 0, nil, 0}, 0, false}, {job{0, 0, nil, -1}, 0, false}, {job{3, 2, two, math.MinInt}, 0, false},
	}
	for _, c := range cases {
		if got, ok := c.response(); got != c.want || ok != c.ok {
			t.Errorf("Response of %v: %d %t, not %d %t", c.job, got, ok, c.want, c.ok)
		}
		c.holds(t)
	}
}

// P16.1: own, block and most below 0, of 0, and above what numbers are clipped to; a most above MaxSpan.
func TestResponseIsClipped(t *testing.T) {
	two := []Part{{10, 2}, {15, 4}}
	cases := []struct {
		job
		want int
		ok   bool
	}{
		{job{-4, -9, nil, 3}, 1, true}, {job{math.MinInt, math.MinInt, nil, 3}, 1, true}, {job{-4, 5, nil, 9}, 5, true}, {job{5, -4, nil, 9}, 5, true},
		{job{math.MinInt, 5, two, 100}, 13, true}, {job{5, math.MinInt, two, 100}, 13, true}, {job{-1, -1, two, 100}, 6, true}, {job{-1, -1, []Part{{3, -5}}, 100}, 1, true},
		{job{most, 0, nil, math.MaxInt}, 0, false}, {job{0, most + 1, nil, math.MaxInt}, 0, false}, {job{math.MaxInt, 0, nil, math.MaxInt}, 0, false},
		{job{0, math.MaxInt, nil, math.MaxInt}, 0, false}, {job{math.MaxInt, math.MaxInt, nil, math.MaxInt}, 0, false}, {job{math.MaxInt, math.MinInt, nil, 9}, 0, false},
		{job{math.MaxInt, 2, two, 100}, 0, false}, {job{1 << 62, 1 << 62, []Part{{1, 1 << 62}}, 100}, 0, false}, {job{1, 1, []Part{{1, math.MaxInt}}, 100}, 0, false},
		{job{3, 2, two, maxSpan}, 13, true}, {job{3, 2, two, maxSpan + 1}, 13, true}, {job{3, 2, two, most + 1}, 13, true}, {job{3, 2, two, math.MaxInt}, 13, true},
		{job{maxSpan - 1, 0, nil, math.MaxInt}, maxSpan - 1, true}, {job{maxSpan, 0, nil, math.MaxInt}, maxSpan, true}, {job{maxSpan + 1, 0, nil, math.MaxInt}, 0, false},
		{job{maxSpan, 0, nil, maxSpan}, maxSpan, true}, {job{maxSpan, 0, nil, maxSpan - 1}, 0, false}, {job{maxSpan, 0, nil, maxSpan + 1}, maxSpan, true},
		{job{maxSpan + 1, 0, nil, maxSpan + 1}, 0, false}, {job{0, maxSpan + 1, nil, most}, 0, false}, {job{maxSpan, 1, nil, most}, 0, false}, {job{maxSpan - 1, 1, nil, most}, maxSpan, true},
		{job{1024, 0, []Part{{4, 3}}, most}, maxSpan, true}, {job{1025, 0, []Part{{4, 3}}, most}, 0, false}, {job{1023, 0, []Part{{4, 3}}, most}, maxSpan - 4, true},
		{job{0, maxSpan - 3, []Part{{maxSpan, 3}}, most}, maxSpan, true}, {job{0, maxSpan - 3, []Part{{maxSpan - 1, 3}}, most}, 0, false},
	}
	for _, c := range cases {
		if got, ok := c.response(); got != c.want || ok != c.ok {
			t.Errorf("Response of %v: %d %t, not %d %t", c.job, got, ok, c.want, c.ok)
		}
		c.holds(t)
	}
}

// P16.1: Response of edges at each place.
func TestResponseOfEdges(t *testing.T) {
	few := []int{math.MinInt, -1, 0, 1, 2, maxSpan - 1, maxSpan, maxSpan + 1, most, math.MaxInt}
	for _, p := range grid(few, few) {
		for _, own := range few {
			for _, block := range few {
				for _, upTo := range few {
					job{own, block, []Part{p}, upTo}.holds(t)
				}
			}
		}
	}
}

// P16.1: Response of all lists of small parts and each most, by a processor and by trying each span.
func TestResponseOfSmallLists(t *testing.T) {
	lists(grid([]int{-1, 0, 1, 2, 3, 5}, []int{-1, 0, 1, 2, 4}), 2, func(parts []Part) {
		for own := range 5 {
			for block := range 3 {
				for upTo := -1; upTo <= 22; upTo++ {
					job{own, block, parts, upTo}.holds(t)
				}
			}
		}
	})
	lists(grid([]int{2, 3, 4, 6}, []int{1, 2, 3}), 3, func(parts []Part) {
		for own := range 4 {
			j := job{own, 1, parts, 40}
			got, ok := j.holds(t)
			if want, may := j.tried(); got != want || ok != may {
				t.Fatalf("%v: %d %t, not %d %t by trying", j, got, ok, want, may)
			}
		}
	})
}

// P16.1: a span below the response is not enough, and the response is, found by trying each span of many lists of parts.
func TestNoLesserSpanIsEnough(t *testing.T) {
	r := rand.New(rand.NewSource(16))
	found, none := 0, 0
	for range 1500 {
		j := someJob(r, 12)
		upTo, ok := j.holds(t)
		if ok {
			found++
			if need := j.needs(upTo); upTo < need || upTo > j.most {
				t.Fatalf("%v: %d is not enough, or too much: it needs %d", j, upTo, need)
			}
		} else {
			none++
			upTo = min(j.most, maxSpan) + 1
		}
		for span := 1; span < upTo; span++ {
			if need := clip(clip(j.own+j.block) + Work(span, j.parts)); span >= need {
				t.Fatalf("%v: %d %t, but %d is enough for %d", j, upTo, ok, span, need)
			}
		}
	}
	if found < 400 || none < 400 {
		t.Errorf("%d found, %d not: the lists tell too little", found, none)
	}
}

// P16.1: Response of many lists of parts, each most of which counts.
func TestResponseAtEachMost(t *testing.T) {
	r := rand.New(rand.NewSource(161))
	late := 0
	for range 4000 {
		j := someJob(r, 20)
		j.most = math.MaxInt
		least, ok := j.holds(t)
		if !ok {
			continue
		}
		if least > 1000 {
			late++
		}
		for _, upTo := range []int{least, least + 1, 2 * least, maxSpan, maxSpan + 1, most, most + 1} {
			if got, ok := Response(j.own, j.block, j.parts, upTo); got != least || !ok {
				t.Fatalf("%v up to %d: %d %t, not %d true", j, upTo, got, ok, least)
			}
		}
		for _, upTo := range []int{least - 1, least / 2, 1 - least, 0, -1, -least, math.MinInt} {
			if got, ok := Response(j.own, j.block, j.parts, upTo); upTo < least && (got != 0 || ok) {
				t.Fatalf("%v up to %d: %d %t, not 0 false", j, upTo, got, ok)
			}
		}
	}
	if late < 100 {
		t.Errorf("%d responses above 1000: the lists tell too little", late)
	}
}

// P16.1: where the parts together take all the time there is, or more, nothing else gets done.
func TestAllTheTimeThereIs(t *testing.T) {
	// What all these periods go into.
	const round = 60
	lists(grid([]int{1, 2, 3, 4, 5, 6}, []int{0, 1, 2, 3}), 3, func(parts []Part) {
		taken, costs := 0, 0
		for _, p := range parts {
			taken += p.Cost * (round / p.Period)
			costs += p.Cost
		}
		own := 1 + len(parts)
		got, ok := Response(own, 0, parts, math.MaxInt)
		if taken >= round {
			if got != 0 || ok {
				t.Fatalf("%v take all the time, but own %d gets done in %d %t", parts, own, got, ok)
			}
			return
		}
		if bound := (own + costs) * round / (round - taken); !ok || got > bound {
			t.Fatalf("%v leave time, but own %d gets done in %d %t, not in %d at most", parts, own, got, ok, bound)
		}
	})
	full := []Part{{2, 1}, {3, 1}, {6, 1}}
	for _, c := range []struct {
		job
		want int
		ok   bool
	}{
		{job{0, 0, full, 100}, 6, true}, {job{0, 0, full, 6}, 6, true}, {job{0, 0, full, 5}, 0, false},
		{job{1, 0, full, most}, 0, false}, {job{0, 1, full, most}, 0, false},
		{job{0, 0, []Part{{1, 1}}, most}, 1, true}, {job{1, 0, []Part{{1, 1}}, most}, 0, false}, {job{0, 0, []Part{{1, 2}}, most}, 0, false},
		{job{0, 0, []Part{{0, 1}}, most}, 1, true}, {job{0, 1, []Part{{-3, 1}}, most}, 0, false}, {job{0, 0, []Part{{1, 1}, {maxSpan, 1}}, most}, 0, false},
		{job{0, 0, []Part{{2, 1}, {2, 1}}, most}, 2, true}, {job{0, 0, []Part{{maxSpan, maxSpan}}, most}, maxSpan, true}, {job{0, 0, []Part{{maxSpan + 1, maxSpan + 1}}, most}, 0, false},
	} {
		if got, ok := c.response(); got != c.want || ok != c.ok {
			t.Errorf("Response of %v: %d %t, not %d %t", c.job, got, ok, c.want, c.ok)
		}
	}
}

// P16.1: a response that takes as many turns as there are spans, and one of as many parts as there is time for.
func TestResponseOfSizes(t *testing.T) {
	slow := append([]Part{{1, 1}}, slices.Repeat([]Part{{3, 0}}, 1000)...)
	if got, ok := Response(1, 0, slow, math.MaxInt); got != 0 || ok {
		t.Errorf("Response of slow parts: %d %t, not 0 false", got, ok)
	}
	for _, c := range []struct {
		count, want int
		ok          bool
	}{{maxSpan - 1, maxSpan - 1, true}, {maxSpan, maxSpan, true}, {maxSpan + 1, 0, false}, {1 << 20, 0, false}} {
		once := slices.Repeat([]Part{{maxSpan, 1}}, c.count)
		if got, ok := Response(0, 0, once, math.MaxInt); got != c.want || ok != c.ok {
			t.Errorf("Response of %d parts: %d %t, not %d %t", c.count, got, ok, c.want, c.ok)
		}
	}
}

// more is a job that has more to do than another one, in one way.
type more struct {
	job
	way string
}

// grown is all jobs that have by or a part more to do than j, or a part that comes by oftener.
func grown(j job, by int, extra Part) []more {
	list := []more{
		{job{j.own + by, j.block, j.parts, j.most}, "own"},
		{job{j.own, j.block + by, j.parts, j.most}, "block"},
	}
	for i, p := range j.parts {
		costlier, oftener := slices.Clone(j.parts), slices.Clone(j.parts)
		costlier[i] = Part{p.Period, p.Cost + by}
		oftener[i] = Part{p.Period - by, p.Cost}
		list = append(list, more{job{j.own, j.block, costlier, j.most}, "cost"}, more{job{j.own, j.block, oftener, j.most}, "period"})
	}
	for i := range len(j.parts) + 1 {
		list = append(list, more{job{j.own, j.block, slices.Insert(slices.Clone(j.parts), i, extra), j.most}, "part"})
	}
	return list
}

// rises counts, by the way in which jobs grow, how often their responses were greater, and how often there was none any more.
type rises struct{ greater, gone map[string]int }

func newRises() rises { return rises{map[string]int{}, map[string]int{}} }

// hold looks whether the response of one that has more to do is not less, and whether it is possible only where the other one is.
func (s rises) hold(t *testing.T, j job, than more) {
	t.Helper()
	a, may := j.response()
	b, ok := than.response()
	if ok && (!may || b < a) {
		t.Fatalf("%v: %d %t, but with more %s, %v: %d %t", j, a, may, than.way, than.job, b, ok)
	}
	if may && !ok {
		s.gone[than.way]++
	}
	if ok && b > a {
		s.greater[than.way]++
	}
	for _, span := range []int{0, 1, 7, max(a, 1), 1000, maxSpan, most} {
		if x, y := Work(span, j.parts), Work(span, than.parts); y < x {
			t.Fatalf("Work(%d, %v): %d, but of %v %d", span, j.parts, x, than.parts, y)
		}
	}
}

// told looks whether each way made responses greater, and took them away, often enough to tell something.
func (s rises) told(t *testing.T) {
	t.Helper()
	for _, way := range []string{"own", "block", "cost", "period", "part"} {
		if s.greater[way] < 50 || s.gone[way] < 50 {
			t.Errorf("%s: %d were greater, %d gone: the lists tell too little", way, s.greater[way], s.gone[way])
		}
	}
}

// P16.2: of all lists of small parts, more never makes a response less, nor possible where it was not.
func TestMoreOfSmallLists(t *testing.T) {
	s := newRises()
	lists(grid([]int{0, 1, 2, 3, 5}, []int{-1, 0, 1, 2}), 2, func(parts []Part) {
		for own := -1; own <= 3; own++ {
			for _, upTo := range []int{0, 1, 5, 12, maxSpan} {
				j := job{own, 1, parts, upTo}
				for _, extra := range []Part{{0, 0}, {4, 1}, {1, -1}, {1, 1}} {
					for _, than := range grown(j, 1, extra) {
						s.hold(t, j, than)
					}
				}
			}
		}
	})
	s.told(t)
}

// P16.2: of many lists of parts, more never makes a response less, nor possible where it was not.
func TestMoreOfManyLists(t *testing.T) {
	r := rand.New(rand.NewSource(162))
	s := newRises()
	for range 3000 {
		j := someJob(r, 10)
		extra := someParts(r, 1)
		for _, than := range grown(j, 1+r.Intn(1<<r.Intn(10)), append(extra, Part{9, 1})[0]) {
			s.hold(t, j, than)
		}
	}
	s.told(t)
}

// P16.2: greater numbers at the edges never make a response less, nor possible where it was not.
func TestMoreOfEdges(t *testing.T) {
	s := newRises()
	rising := []int{math.MinInt, -1, 0, 1, 2, 3, maxSpan - 1, maxSpan, maxSpan + 1, most - 1, most, most + 1, math.MaxInt}
	for i, lesser := range rising {
		for _, greater := range rising[i:] {
			for _, other := range []int{-1, 0, 1, 5, maxSpan, math.MaxInt} {
				parts := []Part{{5, 1}, {other, other}}
				j := job{lesser, other, parts, most}
				s.hold(t, j, more{job{greater, other, parts, most}, "own"})
				j = job{other, lesser, parts, most}
				s.hold(t, j, more{job{other, greater, parts, most}, "block"})
				j = job{1, 1, []Part{{5, 1}, {other, lesser}}, most}
				s.hold(t, j, more{job{1, 1, []Part{{5, 1}, {other, greater}}, most}, "cost"})
				j = job{1, 1, []Part{{greater, other}, {5, 1}}, most}
				s.hold(t, j, more{job{1, 1, []Part{{lesser, other}, {5, 1}}, most}, "period"})
			}
		}
	}
}

// R4: the parts that are handed in stay as they are, their spare room too.
func TestPartsStay(t *testing.T) {
	room := []Part{{10, 2}, {-15, 4}, {0, -1}, {math.MaxInt, math.MinInt}, {most + 1, 3}, {-6, 6}, {7, 7}}
	before := slices.Clone(room)
	for n := range len(room) {
		for _, span := range []int{-1, 0, 1, 30, math.MaxInt} {
			Work(span, room[:n])
			Response(3, 2, room[:n], span)
		}
		if !slices.Equal(room, before) {
			t.Fatalf("the parts are %v, they were %v", room, before)
		}
	}
}

// R4, R5: parts are not kept: what is done to them behind a call tells in the next one, and what is told hangs on nothing else.
func TestPartsAreNotKept(t *testing.T) {
	parts := []Part{{10, 2}, {15, 4}}
	for range 3 {
		for cost := range 9 {
			parts[1].Cost = cost
			worksAs(t, 16, parts, 4+2*cost)
			job{3, 2, parts, 100}.holds(t)
		}
	}
}

// R5: plain functions may be called from several goroutines at one time, on one list too.
func TestSeveralAtOneTime(t *testing.T) {
	r := rand.New(rand.NewSource(5))
	jobs := make([]job, 60)
	for i := range jobs {
		jobs[i] = someJob(r, 8)
	}
	var all sync.WaitGroup
	for range 8 {
		all.Go(func() {
			for _, j := range jobs {
				got, ok := j.response()
				if want, may := j.played(); got != want || ok != may {
					t.Errorf("%v: %d %t, not %d %t", j, got, ok, want, may)
				}
				if got, want := Work(100, j.parts), counted(100, j.parts); got != want {
					t.Errorf("Work(100, %v): %d, not %d", j.parts, got, want)
				}
			}
		})
	}
	all.Wait()
}
