package demand

import (
	"math"
	"math/big"
	"math/rand"
	"slices"
	"sync"
	"testing"

	"coxswain/rta"
)

// The chapter's way: sums go by method values; so does the search for a span at which too much is due.
var (
	_ func([]Early, func(Early) int) int    = sum
	_ func(Early) int                       = window(10).cost
	_ func(int, func(int) bool) (int, bool) = first
	_ func(int) bool                        = load{}.late
)

// From the document: the greatest number there is, and the greatest span that is tried.
const (
	most    = 1 << 40
	maxSpan = 4096
)

// clip is what chapter 1 calls clipped.
func clip(x int) int { return min(max(x, 0), most) }

// dueNeed tells what Need promises in big numbers, which know no bounds before they are clipped at the end.
func dueNeed(span int, list []Early) int {
	sum := new(big.Int)
	for _, e := range list {
		jobs := big.NewInt(int64(clip(span) - clip(e.Deadline)))
		if jobs.Sign() < 0 {
			continue
		}
		jobs.Div(jobs, big.NewInt(int64(clip(max(e.Period, 1)))))
		jobs.Add(jobs, big.NewInt(1))
		sum.Add(sum, jobs.Mul(jobs, big.NewInt(int64(clip(e.Cost)))))
	}
	if sum.Cmp(big.NewInt(most)) > 0 {
		return most
	}
	return int(sum.Int64())
}

// comes tells whether what comes every period, for the first time at since, comes at now.
func comes(now int, since int, period int) bool {
	return now >= clip(since) && (now-clip(since))%clip(max(period, 1)) == 0
}

// come tells how much work the parts bring at just that moment.
func come(now int, parts []rta.Part) int {
	total := 0
	for _, p := range parts {
		if comes(now, 0, p.Period) {
			total = clip(total + clip(p.Cost))
		}
	}
	return total
}

// released tells how much the jobs take that are released at just that moment.
func released(now int, list []Early) int {
	total := 0
	for _, e := range list {
		if comes(now, 0, e.Period) {
			total = clip(total + clip(e.Cost))
		}
	}
	return total
}

// due tells how much the jobs take that are due at just that moment.
func due(now int, list []Early) int {
	total := 0
	for _, e := range list {
		if comes(now, e.Deadline, e.Period) {
			total = clip(total + clip(e.Cost))
		}
	}
	return total
}

// counted tells what Need promises by going through all moments of a span.
func counted(span int, list []Early) int {
	total := due(0, list)
	for now := 1; now <= span; now++ {
		total = clip(total + due(now, list))
	}
	return total
}

// needsAs looks whether Need answers want.
func needsAs(t *testing.T, span int, list []Early, want int) {
	t.Helper()
	if got := Need(span, list); got != want {
		t.Fatalf("Need(%d, %v): %d, not %d", span, list, got, want)
	}
}

// plan is what Fits is asked of.
type plan struct {
	block int
	parts []rta.Part
	list  []Early
	most  int
}

// fit is what Fits answers.
type fit struct {
	span int
	ok   bool
}

func (p plan) fits() fit {
	span, ok := Fits(p.block, p.parts, p.list, p.most)
	return fit{span, ok}
}

func (p plan) busy() fit {
	span, ok := Busy(p.block, p.parts, p.most)
	return fit{span, ok}
}

// tried tells what Fits promises by trying each span, and how long all keeps a processor busy.
func (p plan) tried() (told fit, busy int) {
	ahead, own, need, late := clip(p.block), 0, due(0, p.list), 0
	for span := 1; span <= min(p.most, maxSpan); span++ {
		ahead = clip(ahead + come(span-1, p.parts))
		own = clip(own + released(span-1, p.list))
		need = clip(need + due(span, p.list))
		if late == 0 && need > 0 && ahead+need > span {
			late = span
		}
		if ahead+own > span {
			continue
		}
		if late > 0 {
			return fit{late, false}, span
		}
		return fit{span, true}, span
	}
	return fit{}, 0
}

// kinds counts what Fits told: all fits, none is enough, or too much is due at 1, in between, or at Busy's own.
type kinds struct{ fits, none, first, between, own int }

// hold looks whether Fits and Busy answer what trying each span tells, and counts it.
func (k *kinds) hold(t *testing.T, p plan) {
	t.Helper()
	want, busy := p.tried()
	if got := p.fits(); got != want {
		t.Fatalf("Fits of %v: %v, not %v", p, got, want)
	}
	p.keepsBusy(t)
	switch {
	case want.ok:
		k.fits++
	case want.span == 0:
		k.none++
	case want.span == busy:
		k.own++
	case want.span == 1:
		k.first++
	default:
		k.between++
	}
}

// keepsBusy looks whether Busy of the parts answers what trying each span tells.
func (p plan) keepsBusy(t *testing.T) {
	t.Helper()
	want, _ := plan{p.block, p.parts, nil, p.most}.tried()
	if got := p.busy(); got != want {
		t.Fatalf("Busy(%d, %v, %d): %v, not %v", p.block, p.parts, p.most, got, want)
	}
}

// told looks whether each kind came often enough to tell something.
func (k *kinds) told(t *testing.T, each int) {
	t.Helper()
	if min(k.fits, k.none, k.first, k.between, k.own) < each {
		t.Errorf("%+v: the lists tell too little", *k)
	}
}

// manyParts is all parts of these periods and costs.
func manyParts(periods []int, costs []int) []rta.Part {
	parts := []rta.Part{}
	for _, period := range periods {
		for _, cost := range costs {
			parts = append(parts, rta.Part{Period: period, Cost: cost})
		}
	}
	return parts
}

// manyJobs is all jobs of these periods, deadlines and costs.
func manyJobs(periods []int, deadlines []int, costs []int) []Early {
	list := []Early{}
	for _, p := range manyParts(periods, costs) {
		for _, deadline := range deadlines {
			list = append(list, Early{p.Period, deadline, p.Cost})
		}
	}
	return list
}

// lists hands on all lists of up to n of these; a list is the caller's alone.
func lists[T any](kinds []T, n int, then func(list []T)) {
	var grow func(list []T)
	grow = func(list []T) {
		then(slices.Clone(list))
		if len(list) == n {
			return
		}
		for _, x := range kinds {
			grow(append(slices.Clone(list), x))
		}
	}
	grow(nil)
}

// orders hands on a list in each order.
func orders[T any](list []T, then func(list []T)) {
	var fill func(done []T, left []T)
	fill = func(done []T, left []T) {
		if len(left) == 0 {
			then(done)
		}
		for i, x := range left {
			fill(append(slices.Clone(done), x), slices.Delete(slices.Clone(left), i, i+1))
		}
	}
	fill(nil, list)
}

// somePlan is a plan of up to n parts and n jobs that take most of the time, more or less.
func somePlan(r *rand.Rand, n int) plan {
	p := plan{r.Intn(1 << r.Intn(7)), make([]rta.Part, r.Intn(n+1)), make([]Early, r.Intn(n+1)), 1 + r.Intn(1<<(4+r.Intn(11)))}
	count := len(p.parts) + len(p.list)
	for i := range p.parts {
		period := 1 + r.Intn(1<<(3+r.Intn(8)))
		p.parts[i] = rta.Part{Period: period, Cost: r.Intn(2 + period/count)}
	}
	for i := range p.list {
		period := 1 + r.Intn(1<<(3+r.Intn(8)))
		p.list[i] = Early{period, 1 + r.Intn(2*period), r.Intn(2 + period/count)}
	}
	return p
}

// The examples of the chapter.
func TestExamples(t *testing.T) {
	needsAs(t, 10, []Early{{5, 4, 2}}, 4)
	needsAs(t, 3, []Early{{5, 4, 2}}, 0)
	parts, list := []rta.Part{{Period: 10, Cost: 2}}, []Early{{20, 8, 4}}
	if got := (plan{1, parts, list, 100}).fits(); got != (fit{7, true}) {
		t.Errorf("Fits held up for 1: %v", got)
	}
	if got := (plan{3, parts, list, 100}).fits(); got != (fit{8, false}) {
		t.Errorf("Fits held up for 3: %v", got)
	}
}

// P17.1: Need of no jobs, one and several, about a deadline, and about a deadline and a multiple of a period.
func TestNeed(t *testing.T) {
	one, later, full := []Early{{5, 4, 2}}, []Early{{10, 25, 3}}, []Early{{7, 7, 7}}
	two := []Early{{5, 4, 2}, {8, 8, 3}}
	cases := []struct {
		span int
		list []Early
		want int
	}{
		{0, nil, 0}, {1, nil, 0}, {-1, nil, 0}, {math.MaxInt, nil, 0}, {math.MaxInt, []Early{}, 0}, {math.MinInt, []Early{}, 0},
		{math.MinInt, one, 0}, {-4, one, 0}, {-1, one, 0}, {0, one, 0}, {1, one, 0},
		{3, one, 0}, {4, one, 2}, {5, one, 2}, {8, one, 2}, {9, one, 4}, {10, one, 4}, {13, one, 4}, {14, one, 6}, {15, one, 6},
		{498, one, 198}, {499, one, 200}, {500, one, 200}, {4094, one, 1638}, {4093, one, 1636},
		{10, later, 0}, {24, later, 0}, {25, later, 3}, {26, later, 3}, {34, later, 3}, {35, later, 6}, {36, later, 6},
		{6, full, 0}, {7, full, 7}, {8, full, 7}, {13, full, 7}, {14, full, 14}, {15, full, 14},
		{-1, two, 0}, {0, two, 0}, {3, two, 0}, {4, two, 2}, {7, two, 2}, {8, two, 5}, {9, two, 7}, {13, two, 7}, {14, two, 9},
		{15, two, 9}, {16, two, 12}, {19, two, 14}, {23, two, 14}, {24, two, 19}, {25, two, 19},
		{0, []Early{{1, 1, 1}}, 0}, {1, []Early{{1, 1, 1}}, 1}, {100, []Early{{1, 1, 1}}, 100}, {7, []Early{{1, 1, 3}}, 21}, {7, []Early{{1, 7, 3}}, 3},
		{9, []Early{{3, 3, 2}, {3, 3, 2}}, 12}, {9, []Early{{3, 3, 2}, {3, 3, 2}, {3, 3, 2}}, 18}, {9, []Early{{3, 3, 2}, {3, 10, 2}}, 6},
	}
	for _, c := range cases {
		needsAs(t, c.span, c.list, c.want)
	}
}

// P17.1: Need of periods, deadlines and costs below 0 and of 0.
func TestNeedOfJobsThatAreNone(t *testing.T) {
	cases := []struct {
		span int
		list []Early
		want int
	}{
		// What is due at once is due within any span.
		{math.MinInt, []Early{{5, 0, 2}}, 2}, {-9, []Early{{5, 0, 2}}, 2}, {0, []Early{{5, 0, 2}}, 2}, {4, []Early{{5, 0, 2}}, 2}, {5, []Early{{5, 0, 2}}, 4},
		{-9, []Early{{5, -9, 2}}, 2}, {-9, []Early{{5, -1, 2}}, 2}, {0, []Early{{5, -5, 2}}, 2}, {4, []Early{{5, -1, 2}}, 2}, {5, []Early{{5, -6, 2}}, 4},
		{9, []Early{{5, math.MinInt, 2}}, 4}, {math.MinInt, []Early{{5, math.MinInt, 2}}, 2}, {-9, []Early{{5, 1, 2}}, 0},
		// A period is 1 at least.
		{7, []Early{{0, 4, 2}}, 8}, {7, []Early{{-1, 4, 2}}, 8}, {7, []Early{{math.MinInt, 4, 2}}, 8}, {3, []Early{{0, 4, 2}}, 0}, {4, []Early{{0, 4, 2}}, 2},
		{7, []Early{{0, 0, 2}}, 16}, {0, []Early{{0, 0, 2}}, 2}, {7, []Early{{-3, -3, 2}}, 16}, {-7, []Early{{-3, -3, 2}}, 2},
		// A cost is 0 at least.
		{7, []Early{{5, 4, 0}}, 0}, {7, []Early{{5, 4, -1}}, 0}, {7, []Early{{5, 4, math.MinInt}}, 0}, {7, []Early{{0, 0, 0}}, 0}, {-7, []Early{{-3, -3, -3}}, 0},
		{7, []Early{{5, 4, -9}, {5, 4, 2}}, 2}, {7, []Early{{5, 4, 2}, {5, 4, -9}}, 2}, {7, []Early{{0, 0, -9}, {5, 4, 2}, {0, 0, 0}}, 2},
	}
	for _, c := range cases {
		needsAs(t, c.span, c.list, c.want)
	}
}

// P17.1: Need of the greatest numbers: all that goes in is clipped, each product, and each sum.
func TestNeedIsClipped(t *testing.T) {
	cases := []struct {
		span int
		list []Early
		want int
	}{
		{1, []Early{{1, 1, most - 1}}, most - 1}, {1, []Early{{1, 1, most}}, most}, {1, []Early{{1, 1, most + 1}}, most}, {1, []Early{{1, 1, math.MaxInt}}, most},
		{most - 1, []Early{{1, 1, 1}}, most - 1}, {most, []Early{{1, 1, 1}}, most}, {most, []Early{{1, 2, 1}}, most - 1}, {most + 1, []Early{{1, 2, 1}}, most - 1},
		{math.MaxInt, []Early{{1, 2, 1}}, most - 1}, {math.MaxInt, []Early{{1, 0, 1}}, most}, {most, []Early{{0, 0, 1}}, most}, {most - 1, []Early{{1, 0, 1}}, most},
		{most - 1, []Early{{9, most, 5}}, 0}, {most, []Early{{9, most, 5}}, 5}, {math.MaxInt, []Early{{9, most, 5}}, 5}, {most - 1, []Early{{9, math.MaxInt, 5}}, 0},
		{most, []Early{{9, math.MaxInt, 5}}, 5}, {most, []Early{{9, most + 1, 5}}, 5}, {math.MaxInt, []Early{{1, math.MaxInt, 5}}, 5}, {most + 9, []Early{{1, most + 4, 5}}, 5},
		{most, []Early{{most, 0, 5}}, 10}, {most, []Early{{most, 1, 5}}, 5}, {most - 1, []Early{{most, 0, 5}}, 5}, {math.MaxInt, []Early{{math.MaxInt, 0, 5}}, 10},
		{most, []Early{{most + 1, 0, 5}}, 10}, {most - 1, []Early{{math.MaxInt, 0, 5}}, 5}, {most, []Early{{most - 1, 1, 5}}, 10}, {most, []Early{{most - 1, 2, 5}}, 5},
		{1 << 20, []Early{{1, 1, 1 << 20}}, most}, {1<<20 - 1, []Early{{1, 1, 1 << 20}}, most - 1<<20}, {1 << 32, []Early{{1, 1, 1 << 32}}, most},
		{1 << 32, []Early{{1 << 30, 0, 1 << 62}}, most}, {math.MaxInt, []Early{{1, 1, math.MaxInt}, {1, 1, math.MaxInt}}, most},
		{1, []Early{{1, 1, most}, {1, 1, 1}}, most}, {1, []Early{{1, 1, 1}, {1, 1, most}}, most}, {1, []Early{{1, 1, most - 1}, {1, 1, 1}}, most},
		{1, []Early{{1, 1, most - 2}, {1, 1, 1}}, most - 1}, {1, []Early{{1, 1, most / 2}, {1, 1, most / 2}}, most}, {1, []Early{{1, 1, most}, {1, 2, most}}, most},
		{1, []Early{{1, 1, most}, {1, 1, math.MinInt}}, most}, {1, []Early{{1, 1, math.MinInt}, {1, 1, most - 1}}, most - 1},
	}
	for _, c := range cases {
		needsAs(t, c.span, c.list, c.want)
	}
}

// P17.1: Need of all spans and all lists of small jobs, counted a moment at a time.
func TestNeedOfSmallLists(t *testing.T) {
	lists(manyJobs([]int{-1, 0, 1, 2, 3, 5}, []int{-1, 0, 1, 2, 4, 7}, []int{-1, 0, 1, 3}), 1, func(list []Early) {
		for span := -3; span <= 41; span++ {
			needsAs(t, span, list, counted(span, list))
		}
	})
	lists(manyJobs([]int{1, 2, 3}, []int{0, 1, 2, 4}, []int{0, 1, 2}), 2, func(list []Early) {
		for span := -1; span <= 14; span++ {
			needsAs(t, span, list, counted(span, list))
		}
	})
}

// P17.1: Need just below, at and just above each deadline that a span may reach, that of the first job and those of the later ones.
func TestNeedAboutDeadlines(t *testing.T) {
	for _, period := range []int{1, 2, 3, 7, 10, 64, 1000, 4095, 4096, 4097} {
		for _, deadline := range []int{1, 2, 5, 9, period, period + 1, 3 * period} {
			list := []Early{{period, deadline, 3}}
			for jobs := range 1 + 5000/period {
				moment := deadline + jobs*period
				needsAs(t, moment-1, list, 3*jobs)
				needsAs(t, moment, list, 3*jobs+3)
				needsAs(t, moment+period-1, list, 3*jobs+3)
			}
		}
	}
}

// edges are the bounds, what lies just beside them, and numbers whose sums or products wrap round or just don't reach a bound.
var edges = []int{
	math.MinInt, -most - 1, -1, 0, 1, 2, 7, maxSpan - 1, maxSpan, maxSpan + 1, 1<<20 - 1, 1 << 20, 1 << 32,
	most/2 - 1, most / 2, most/2 + 1, most - 1, most, most + 1, 1 << 62, math.MaxInt - 1, math.MaxInt,
}

// P17.1: Need of edges at each place.
func TestNeedOfEdges(t *testing.T) {
	for _, e := range manyJobs(edges, edges, edges) {
		for _, span := range edges {
			needsAs(t, span, []Early{e}, dueNeed(span, []Early{e}))
		}
	}
	few := []int{math.MinInt, 0, 1, most/2 + 1, most, math.MaxInt}
	lists(manyJobs(few[1:], few[1:], few), 2, func(list []Early) {
		for _, span := range few {
			needsAs(t, span, list, dueNeed(span, list))
		}
	})
}

// P17.1: sums of clipped numbers are the same in each order of the list.
func TestNeedInEachOrder(t *testing.T) {
	for _, list := range [][]Early{
		{{10, 8, 2}, {15, 15, 4}, {4, 5, 1}, {9, 3, 0}, {-3, -1, -5}},
		{{1, 1, 1}, {2, 4, 1}, {3, 2, 1}, {5, 0, 1}, {7, 7, 1}, {11, 30, 1}},
		{{1, 1, math.MaxInt}, {1, 0, most - 1}, {2, 2, most / 2}, {0, 0, math.MinInt}, {3, 1, 1}},
		{{most, 0, most}, {most - 1, most, 1}, {1, math.MaxInt, 0}, {math.MinInt, math.MinInt, -1}, {0, 3, 1 << 20}},
	} {
		for _, span := range []int{math.MinInt, -1, 0, 1, 4, 5, 7, 8, 10, 15, 60, 4096, most - 1, most, math.MaxInt} {
			want := dueNeed(span, list)
			orders(list, func(turned []Early) { needsAs(t, span, turned, want) })
		}
	}
}

// P17.1: Need of a great number of jobs.
func TestNeedOfManyJobs(t *testing.T) {
	needsAs(t, 1, slices.Repeat([]Early{{1, 1, math.MaxInt}}, 1<<16), most)
	needsAs(t, 1, slices.Repeat([]Early{{1, 1, 1 << 24}}, 1<<16), most)
	needsAs(t, 1, slices.Repeat([]Early{{1, 1, 1 << 24}}, 1<<16-1), most-1<<24)
	needsAs(t, 7, slices.Repeat([]Early{{3, 1, 2}, {5, 1, -2}, {5, 8, 2}}, 1<<16), 6<<16)
}

// P17.1: Busy, its answers reckoned by hand.
func TestBusy(t *testing.T) {
	two := []rta.Part{{Period: 10, Cost: 2}, {Period: 15, Cost: 4}}
	turns := []rta.Part{{Period: 7, Cost: 3}, {Period: 12, Cost: 3}}
	full := []rta.Part{{Period: 2, Cost: 1}, {Period: 3, Cost: 1}, {Period: 6, Cost: 1}}
	always, twice := []rta.Part{{Period: 1, Cost: 1}}, []rta.Part{{Period: 2, Cost: 1}, {Period: 2, Cost: 1}}
	cases := []struct {
		block int
		parts []rta.Part
		most  int
		want  fit
	}{
		// No parts, or parts that cost nothing: block alone.
		{5, nil, 100, fit{5, true}}, {5, []rta.Part{}, 100, fit{5, true}}, {5, nil, 5, fit{5, true}}, {5, nil, 4, fit{}}, {2, nil, 1, fit{}}, {2, nil, 2, fit{2, true}},
		{5, []rta.Part{{Period: 1}, {Period: 2, Cost: -9}}, 100, fit{5, true}}, {5, []rta.Part{{}}, 4, fit{}},
		// It is 1, the least span that there is.
		{0, nil, 1, fit{1, true}}, {0, nil, 100, fit{1, true}}, {1, nil, 1, fit{1, true}}, {1, nil, 100, fit{1, true}}, {0, always, 1, fit{1, true}},
		{0, []rta.Part{{Period: 50, Cost: 1}}, 100, fit{1, true}}, {1, []rta.Part{{Period: 50, Cost: 1}}, 1, fit{}}, {0, twice, 1, fit{}},
		// No span may be asked of.
		{0, nil, 0, fit{}}, {0, nil, -1, fit{}}, {5, two, math.MinInt, fit{}}, {-1, nil, 0, fit{}},
		// The parts come once.
		{0, two, 100, fit{6, true}}, {0, two, 6, fit{6, true}}, {0, two, 5, fit{}}, {4, two, 100, fit{10, true}}, {4, two, 10, fit{10, true}}, {4, two, 9, fit{}},
		// Several turns: 11 and 13; 11, 14, 17 and 20.
		{5, two, 100, fit{13, true}}, {5, two, 13, fit{13, true}}, {5, two, 12, fit{}}, {5, turns, 100, fit{20, true}}, {5, turns, 20, fit{20, true}}, {5, turns, 19, fit{}},
		// Nothing is left for block, or more than nothing.
		{0, full, 100, fit{6, true}}, {0, full, 6, fit{6, true}}, {0, full, 5, fit{}}, {1, full, most, fit{}}, {1, always, most, fit{}}, {0, []rta.Part{{Period: 1, Cost: 2}}, most, fit{}},
		{0, twice, most, fit{2, true}}, {1, twice, most, fit{}}, {0, []rta.Part{{Cost: 1}}, most, fit{1, true}}, {1, []rta.Part{{Period: -3, Cost: 1}}, most, fit{}},
		{0, []rta.Part{{Period: maxSpan, Cost: maxSpan}}, most, fit{maxSpan, true}}, {0, []rta.Part{{Period: maxSpan + 1, Cost: maxSpan + 1}}, most, fit{}},
	}
	for _, c := range cases {
		p := plan{c.block, c.parts, nil, c.most}
		if got := p.busy(); got != c.want {
			t.Errorf("Busy(%d, %v, %d): %v, not %v", c.block, c.parts, c.most, got, c.want)
		}
		p.keepsBusy(t)
	}
}

// P17.1: block and most below 0, of 0, and above what numbers are clipped to; a most above MaxSpan.
func TestBusyIsClipped(t *testing.T) {
	two := []rta.Part{{Period: 10, Cost: 2}, {Period: 15, Cost: 4}}
	cases := []struct {
		block int
		parts []rta.Part
		most  int
		want  fit
	}{
		{-9, nil, 3, fit{1, true}}, {math.MinInt, nil, 3, fit{1, true}}, {-9, two, 100, fit{6, true}}, {math.MinInt, two, 100, fit{6, true}}, {0, two, 100, fit{6, true}},
		{most, nil, math.MaxInt, fit{}}, {most + 1, nil, math.MaxInt, fit{}}, {math.MaxInt, nil, math.MaxInt, fit{}}, {math.MaxInt, two, 100, fit{}},
		{math.MaxInt, []rta.Part{{Period: 1, Cost: math.MaxInt}}, math.MaxInt, fit{}}, {1 << 62, []rta.Part{{Period: 1, Cost: 1 << 62}}, most, fit{}},
		{5, two, maxSpan, fit{13, true}}, {5, two, maxSpan + 1, fit{13, true}}, {5, two, most, fit{13, true}}, {5, two, most + 1, fit{13, true}}, {5, two, math.MaxInt, fit{13, true}},
		{maxSpan - 1, nil, math.MaxInt, fit{maxSpan - 1, true}}, {maxSpan, nil, math.MaxInt, fit{maxSpan, true}}, {maxSpan + 1, nil, math.MaxInt, fit{}},
		{maxSpan, nil, maxSpan - 1, fit{}}, {maxSpan, nil, maxSpan, fit{maxSpan, true}}, {maxSpan, nil, maxSpan + 1, fit{maxSpan, true}}, {maxSpan + 1, nil, maxSpan + 1, fit{}},
		{1024, []rta.Part{{Period: 4, Cost: 3}}, most, fit{maxSpan, true}}, {1025, []rta.Part{{Period: 4, Cost: 3}}, most, fit{}},
	}
	for _, c := range cases {
		p := plan{c.block, c.parts, nil, c.most}
		if got := p.busy(); got != c.want {
			t.Errorf("Busy(%d, %v, %d): %v, not %v", c.block, c.parts, c.most, got, c.want)
		}
		p.keepsBusy(t)
	}
}

// few are edges for where several meet.
var few = []int{math.MinInt, -1, 0, 1, 2, maxSpan - 1, maxSpan, maxSpan + 1, most, math.MaxInt}

// P17.1: Busy of edges at each place.
func TestBusyOfEdges(t *testing.T) {
	for _, block := range few {
		for _, upTo := range few {
			plan{block, nil, nil, upTo}.keepsBusy(t)
			for _, p := range manyParts(few, few) {
				plan{block, []rta.Part{p}, nil, upTo}.keepsBusy(t)
			}
		}
	}
}

// P17.1: Busy of all lists of small parts, and each most.
func TestBusyOfSmallLists(t *testing.T) {
	lists(manyParts([]int{-1, 0, 1, 2, 3, 5}, []int{-1, 0, 1, 2, 4}), 2, func(parts []rta.Part) {
		for block := -1; block <= 5; block++ {
			for upTo := -1; upTo <= 22; upTo++ {
				plan{block, parts, nil, upTo}.keepsBusy(t)
			}
		}
	})
	lists(manyParts([]int{2, 3, 4, 6}, []int{1, 2, 3}), 3, func(parts []rta.Part) {
		for block := range 5 {
			plan{block, parts, nil, 60}.keepsBusy(t)
		}
	})
}

// P17.1: Busy and the response of a job that takes nothing are one and the same.
func TestBusyIsAResponse(t *testing.T) {
	r := rand.New(rand.NewSource(17))
	found := 0
	for range 4000 {
		p := somePlan(r, 9)
		p.keepsBusy(t)
		span, ok := rta.Response(0, p.block, p.parts, p.most)
		if got := p.busy(); got != (fit{span, ok}) {
			t.Fatalf("Busy(%d, %v, %d): %v, but the response is %d %t", p.block, p.parts, p.most, got, span, ok)
		}
		if ok && span > p.block+1 {
			found++
		}
	}
	if found < 1000 {
		t.Errorf("%d found: the lists tell too little", found)
	}
}

// P17.2: Fits, its answers reckoned by hand.
func TestFits(t *testing.T) {
	part, threes := []rta.Part{{Period: 10, Cost: 2}}, []rta.Part{{Period: 10, Cost: 3}}
	cases := []struct {
		name string
		plan
		want fit
	}{
		{"neither parts nor jobs", plan{0, nil, nil, 100}, fit{1, true}},
		{"neither parts nor jobs", plan{0, []rta.Part{}, []Early{}, 1}, fit{1, true}},
		{"neither parts nor jobs", plan{5, nil, nil, 5}, fit{5, true}},
		{"neither, held up too long", plan{5, nil, nil, 4}, fit{}},
		{"no span may be asked of", plan{0, nil, nil, 0}, fit{}},
		{"no span may be asked of", plan{0, part, []Early{{9, 1, 2}}, 0}, fit{}},
		{"no span may be asked of", plan{0, part, []Early{{9, 1, 2}}, -5}, fit{}},

		{"parts alone", plan{1, part, nil, 100}, fit{3, true}},
		{"parts alone, just most", plan{9, part, nil, 13}, fit{13, true}},
		{"parts alone, one more than most", plan{9, part, nil, 12}, fit{}},
		{"parts alone, all the time", plan{0, []rta.Part{{Period: 1, Cost: 1}}, nil, 100}, fit{1, true}},
		{"parts alone, all the time", plan{1, []rta.Part{{Period: 1, Cost: 1}}, nil, 100}, fit{}},

		{"jobs alone", plan{0, nil, []Early{{5, 4, 2}}, 100}, fit{2, true}},
		{"jobs alone, just most", plan{0, nil, []Early{{5, 4, 2}}, 2}, fit{2, true}},
		{"jobs alone, one more than most", plan{0, nil, []Early{{5, 4, 2}}, 1}, fit{}},
		{"jobs alone, just room", plan{2, nil, []Early{{5, 4, 2}}, 100}, fit{4, true}},
		{"jobs alone, no room", plan{3, nil, []Early{{5, 4, 2}}, 100}, fit{4, false}},
		{"jobs alone, all the time", plan{0, nil, []Early{{4, 4, 4}}, 100}, fit{4, true}},
		{"jobs alone, all the time", plan{1, nil, []Early{{4, 4, 4}}, maxSpan}, fit{}},
		{"jobs alone, the second of one kind has no room", plan{0, nil, []Early{{4, 3, 2}, {20, 7, 3}}, 100}, fit{7, true}},
		{"jobs alone, the second of one kind has no room", plan{1, nil, []Early{{4, 3, 2}, {20, 7, 3}}, 100}, fit{7, false}},

		{"both", plan{1, part, []Early{{20, 8, 4}}, 100}, fit{7, true}},
		{"both, just room", plan{2, part, []Early{{20, 8, 4}}, 100}, fit{8, true}},
		{"both, just room and most", plan{2, part, []Early{{20, 8, 4}}, 8}, fit{8, true}},
		{"both, one more than most", plan{2, part, []Early{{20, 8, 4}}, 7}, fit{}},
		{"both, no room", plan{3, part, []Early{{20, 8, 4}}, 9}, fit{8, false}},
		{"no room at 8, but busy for longer than most", plan{3, part, []Early{{20, 8, 4}}, 8}, fit{}},
		{"both, no room for the first of two", plan{0, part, []Early{{20, 6, 5}, {20, 20, 10}}, 100}, fit{6, false}},
		{"both, just room for both", plan{0, part, []Early{{20, 7, 5}, {20, 20, 10}}, 100}, fit{19, true}},
		{"both, no room at two spans", plan{0, part, []Early{{20, 3, 4}, {20, 5, 4}}, 100}, fit{3, false}},
		{"both, no room at two spans, the other way round", plan{0, part, []Early{{20, 5, 4}, {20, 3, 4}}, 100}, fit{3, false}},

		{"too much at 1", plan{0, nil, []Early{{9, 1, 2}}, 100}, fit{1, false}},
		{"too much at 1, of block", plan{1, nil, []Early{{9, 1, 1}}, 100}, fit{1, false}},
		{"too much at 1, of a part", plan{0, []rta.Part{{Period: 10, Cost: 1}}, []Early{{9, 1, 1}}, 100}, fit{1, false}},
		{"too much at 1, due at once", plan{0, nil, []Early{{9, 0, 2}}, 100}, fit{1, false}},
		{"just as much at 1", plan{0, nil, []Early{{9, 1, 1}}, 100}, fit{1, true}},
		{"just as much at 1, due at once", plan{0, nil, []Early{{9, 0, 1}}, 100}, fit{1, true}},

		{"too much at Busy's own", plan{0, nil, []Early{{2, 0, 1}, {2, 2, 1}}, 100}, fit{2, false}},
		{"too much at Busy's own", plan{0, nil, []Early{{4, 0, 1}, {4, 4, 3}}, 100}, fit{4, false}},
		{"too much at Busy's own, which is 1", plan{0, nil, []Early{{1, 0, 1}}, 100}, fit{1, false}},

		{"too much at a span at which nothing falls due, but a part comes", plan{0, []rta.Part{{Period: 5, Cost: 3}}, []Early{{20, 4, 1}, {20, 20, 3}}, 100}, fit{6, false}},
		{"that span is behind Busy's", plan{0, []rta.Part{{Period: 5, Cost: 3}}, []Early{{20, 4, 1}}, 100}, fit{4, true}},
		{"parts leave no room where nothing is due", plan{2, threes, []Early{{20, 7, 1}, {20, 20, 5}}, 100}, fit{14, true}},
		{"parts leave no room where only nothing is due", plan{2, threes, []Early{{20, 1, 0}, {20, 2, -3}}, 100}, fit{5, true}},
		{"parts leave no room where just one is due", plan{2, threes, []Early{{20, 4, 1}, {20, 20, 5}}, 100}, fit{4, false}},
		{"held up where nothing is due", plan{6, nil, []Early{{20, 7, 1}}, 100}, fit{7, true}},
		{"held up where something is due", plan{6, nil, []Early{{20, 6, 1}}, 100}, fit{6, false}},
		{"never due", plan{1, part, []Early{{20, math.MaxInt, 4}, {30, most, 1}}, 100}, fit{8, true}},
		{"due behind Busy's span alone", plan{1, part, []Early{{20, 8, 4}, {20, 9, 1}}, 100}, fit{8, true}},
	}
	for _, c := range cases {
		if got := c.fits(); got != c.want {
			t.Errorf("%s: Fits of %v: %v, not %v", c.name, c.plan, got, c.want)
		}
		new(kinds).hold(t, c.plan)
	}
}

// P17.2: numbers below 0, of 0, and above what they are clipped to; a most above MaxSpan.
func TestFitsIsClipped(t *testing.T) {
	part, job := []rta.Part{{Period: 10, Cost: 2}}, []Early{{20, 8, 4}}
	last := []Early{{9999, maxSpan, 1}}
	cases := []struct {
		plan
		want fit
	}{
		{plan{-9, part, job, 100}, fit{6, true}}, {plan{math.MinInt, part, job, 100}, fit{6, true}}, {plan{most + 1, part, job, math.MaxInt}, fit{}}, {plan{math.MaxInt, part, job, math.MaxInt}, fit{}},
		{plan{1, part, job, math.MinInt}, fit{}}, {plan{1, part, job, maxSpan + 1}, fit{7, true}}, {plan{1, part, job, most + 1}, fit{7, true}}, {plan{3, part, job, math.MaxInt}, fit{8, false}},
		{plan{1, part, []Early{{20, -8, 4}}, 100}, fit{1, false}}, {plan{1, part, []Early{{20, math.MinInt, -4}}, 100}, fit{3, true}}, {plan{1, part, []Early{{0, 8, 4}}, most}, fit{}},
		{plan{1, []rta.Part{{Period: -10, Cost: 2}}, job, most}, fit{}}, {plan{1, []rta.Part{{Period: 10, Cost: -2}}, job, most}, fit{5, true}}, {plan{1, []rta.Part{{Period: -1, Cost: -1}}, job, most}, fit{5, true}},
		{plan{1, part, []Early{{20, 8, math.MaxInt}}, most}, fit{}}, {plan{1, part, []Early{{math.MaxInt, 8, 4}}, most}, fit{7, true}}, {plan{1, part, []Early{{1, 1, math.MinInt}}, most}, fit{3, true}},
		{plan{0, nil, []Early{{-1, 1, 1}}, most}, fit{1, true}}, {plan{0, nil, []Early{{0, 2, 1}}, most}, fit{1, true}}, {plan{0, nil, []Early{{0, 0, 1}}, most}, fit{1, false}}, {plan{1, nil, []Early{{0, 2, 1}}, most}, fit{}},
		{plan{maxSpan, nil, nil, math.MaxInt}, fit{maxSpan, true}}, {plan{maxSpan + 1, nil, nil, math.MaxInt}, fit{}},
		{plan{maxSpan - 1, nil, last, math.MaxInt}, fit{maxSpan, true}}, {plan{maxSpan - 1, nil, []Early{{9999, maxSpan - 1, 1}}, math.MaxInt}, fit{maxSpan - 1, false}},
		{plan{maxSpan - 1, nil, last, maxSpan - 1}, fit{}}, {plan{maxSpan, nil, last, math.MaxInt}, fit{}}, {plan{0, nil, []Early{{maxSpan, maxSpan, maxSpan}}, most}, fit{maxSpan, true}},
		{plan{0, nil, []Early{{maxSpan, maxSpan - 1, maxSpan}}, most}, fit{maxSpan - 1, false}}, {plan{0, nil, []Early{{maxSpan, 1, maxSpan}}, most}, fit{1, false}},
	}
	for _, c := range cases {
		if got := c.fits(); got != c.want {
			t.Errorf("Fits of %v: %v, not %v", c.plan, got, c.want)
		}
		new(kinds).hold(t, c.plan)
	}
}

// P17.2: Fits of edges at each place.
func TestFitsOfEdges(t *testing.T) {
	r := rand.New(rand.NewSource(171))
	edge := func() int { return few[r.Intn(len(few))] }
	long := func() int { return []int{0, 1, 2, 4, 1000, maxSpan - 1, maxSpan, maxSpan + 1, math.MaxInt}[r.Intn(9)] }
	short := func() int { return []int{-1, 0, 0, 1, 1, 2, maxSpan/2 - 1, maxSpan - 2, maxSpan - 1}[r.Intn(9)] }
	k := new(kinds)
	for round := range 80000 {
		times, costs := edge, edge
		if round%2 == 0 {
			times, costs = long, short
		}
		p := plan{costs(), make([]rta.Part, r.Intn(3)), make([]Early, r.Intn(4)), edge()}
		for i := range p.parts {
			p.parts[i] = rta.Part{Period: times(), Cost: costs()}
		}
		for i := range p.list {
			p.list[i] = Early{times(), times(), costs()}
		}
		k.hold(t, p)
	}
	k.told(t, 25)
}

// P17.2: Fits of all lists of few small parts and small jobs, held up for each time, up to each most.
func TestFitsOfSmallLists(t *testing.T) {
	k := new(kinds)
	parts := manyParts([]int{1, 2, 4}, []int{0, 1, 2})
	lists(parts, 1, func(parts []rta.Part) {
		lists(manyJobs([]int{0, 1, 2, 3, 5}, []int{-1, 0, 1, 2, 3, 6}, []int{-1, 0, 1, 2, 3}), 1, func(list []Early) {
			for block := -1; block <= 4; block++ {
				for upTo := -1; upTo <= 16; upTo++ {
					k.hold(t, plan{block, parts, list, upTo})
				}
			}
		})
	})
	lists(parts[1:], 2, func(parts []rta.Part) {
		lists(manyJobs([]int{2, 4, 5}, []int{0, 1, 3, 4}, []int{1, 2}), 2, func(list []Early) {
			for block := range 3 {
				k.hold(t, plan{block, parts, list, 30})
			}
		})
	})
	k.told(t, 500)
}

// P17.2: Fits of many lists of parts and of jobs answers what trying each span tells, in each order of either list.
func TestFitsOfManyLists(t *testing.T) {
	r := rand.New(rand.NewSource(172))
	k := new(kinds)
	late := 0
	for range 20000 {
		p := somePlan(r, 8)
		k.hold(t, p)
		want := p.fits()
		if want.span > 300 {
			late++
		}
		r.Shuffle(len(p.parts), func(i, j int) { p.parts[i], p.parts[j] = p.parts[j], p.parts[i] })
		r.Shuffle(len(p.list), func(i, j int) { p.list[i], p.list[j] = p.list[j], p.list[i] })
		if got := p.fits(); got != want {
			t.Fatalf("Fits of %v: %v, not %v as in another order", p, got, want)
		}
	}
	if k.fits < 2000 || k.between < 2000 || k.none < 2000 || late < 100 {
		t.Errorf("%+v, %d behind 300: the lists tell too little", *k, late)
	}
}

// P17.2: Fits at each most about how long all keeps a processor busy: that alone counts, also where too much is due.
func TestFitsAtEachMost(t *testing.T) {
	r := rand.New(rand.NewSource(173))
	fits, late := 0, 0
	for range 3000 {
		p := somePlan(r, 6)
		p.most = math.MaxInt
		want, busy := p.tried()
		if busy == 0 {
			continue
		}
		if want.ok {
			fits++
		} else {
			late++
		}
		for _, upTo := range []int{busy, busy + 1, 2 * busy, maxSpan, maxSpan + 1, most, most + 1, math.MaxInt} {
			p.most = upTo
			if got := p.fits(); got != want {
				t.Fatalf("Fits of %v: %v, not %v", p, got, want)
			}
		}
		for _, upTo := range []int{busy - 1, busy / 2, 0, -1, -busy, math.MinInt} {
			p.most = upTo
			if got := p.fits(); got != (fit{}) {
				t.Fatalf("Fits of %v: %v, but all of it takes %d", p, got, busy)
			}
		}
	}
	if fits < 500 || late < 500 {
		t.Errorf("%d fit, %d don't: the lists tell too little", fits, late)
	}
}

// turn is a job under way: what is left of it, and when it is due.
type turn struct{ left, due int }

// processor takes a section to its end, then parts, then ever the job that is due first; a tick at a time.
type processor struct {
	section, parts int
	jobs           []turn
}

// idle tells whether nothing is left.
func (c *processor) idle() bool { return c.section == 0 && c.parts == 0 && len(c.jobs) == 0 }

// tick does one tick of what comes first.
func (c *processor) tick() {
	switch {
	case c.section > 0:
		c.section--
	case c.parts > 0:
		c.parts--
	case len(c.jobs) > 0:
		next := 0
		for i, job := range c.jobs {
			if job.due < c.jobs[next].due {
				next = i
			}
		}
		c.jobs[next].left--
		c.jobs = slices.DeleteFunc(c.jobs, func(job turn) bool { return job.left == 0 })
	}
}

// late tells whether a job is left that was to be over by now.
func (c *processor) late(now int) bool {
	return slices.ContainsFunc(c.jobs, func(job turn) bool { return job.due <= now })
}

// release adds a job, if there is anything to do in it.
func (c *processor) release(now int, e Early) {
	if e.Cost > 0 {
		c.jobs = append(c.jobs, turn{e.Cost, now + e.Deadline})
	}
}

// played tells what Fits promises of jobs alone, none of which is due when it is released: when one of them is late first, if any is till nothing is left.
func (p plan) played() fit {
	c, late := &processor{section: clip(p.block)}, 0
	for now := range min(p.most, maxSpan) {
		for _, e := range p.list {
			if now%e.Period == 0 {
				c.release(now, e)
			}
		}
		c.tick()
		if late == 0 && c.late(now+1) {
			late = now + 1
		}
		if c.idle() && late > 0 {
			return fit{late, false}
		}
		if c.idle() {
			return fit{now + 1, true}
		}
	}
	return fit{}
}

// P17.2: without parts the first span at which too much is due is the moment at which a job is late first, if the one that is due first is taken first.
func TestFitsOfJobsThatArePlayed(t *testing.T) {
	k := new(kinds)
	holds := func(p plan) {
		t.Helper()
		k.hold(t, p)
		if got, want := p.fits(), p.played(); got != want {
			t.Fatalf("Fits of %v: %v, but played %v", p, got, want)
		}
	}
	lists(manyJobs([]int{1, 2, 3, 5}, []int{1, 2, 3, 5, 6}, []int{0, 1, 2, 3}), 2, func(list []Early) {
		for block := range 3 {
			holds(plan{block, nil, list, 25})
		}
	})
	r := rand.New(rand.NewSource(174))
	for range 3000 {
		p := somePlan(r, 8)
		p.parts, p.most = nil, min(p.most, 300)
		holds(p)
	}
	// Of such jobs all that are due by then are released by then, so that it is never Busy's own.
	if k.own > 0 || min(k.fits, k.none, k.first, k.between) < 500 {
		t.Errorf("%+v: the lists tell too little", *k)
	}
}

// inTime tells whether no job is late while parts and jobs come a period apart or more, and each time that nothing is left a section may begin ahead of what comes.
func (p plan) inTime(r *rand.Rand, ticks int, slack int) bool {
	c := new(processor)
	partAt, jobAt := make([]int, len(p.parts)), make([]int, len(p.list))
	for now := range ticks {
		if c.idle() && r.Intn(2) == 0 {
			c.section = p.block
		}
		for i, part := range p.parts {
			if now >= partAt[i] && r.Intn(slack) == 0 {
				c.parts += part.Cost
				partAt[i] = now + part.Period
			}
		}
		for i, e := range p.list {
			if now >= jobAt[i] && r.Intn(slack) == 0 {
				c.release(now, e)
				jobAt[i] = now + e.Period
			}
		}
		c.tick()
		if c.late(now + 1) {
			return false
		}
	}
	return true
}

// P17.2: what fits is in time, however often and whenever parts and jobs come; of what does not, some is late.
func TestWhatFitsIsInTime(t *testing.T) {
	r := rand.New(rand.NewSource(175))
	fits, late := 0, 0
	for range 3000 {
		p := somePlan(r, 5)
		p.most = maxSpan
		if len(p.list) == 0 {
			continue
		}
		got := p.fits()
		if got.ok {
			fits++
		}
		for _, slack := range []int{1, 2, 10} {
			inTime := p.inTime(r, 400, slack)
			if got.ok && !inTime {
				t.Fatalf("Fits of %v: %v, but a job is late", p, got)
			}
			if !inTime {
				late++
			}
		}
	}
	if fits < 500 || late < 500 {
		t.Errorf("%d fit, %d were late: the lists tell too little", fits, late)
	}
}

// less is a plan that has less to do than another one, or more time for it, in one way.
type less struct {
	plan
	way string
}

// ways are all ways in which there is less.
var ways = []string{"block", "part's cost", "part's period", "part", "job's cost", "job's period", "job's deadline", "job"}

// lessened is all plans that have one number less or more than p has, or one part or job less.
func lessened(p plan, fewer func(x int) int, longer func(x int) int) []less {
	list := []less{{plan{fewer(p.block), p.parts, p.list, p.most}, "block"}}
	for i, one := range p.parts {
		with := func(way string, instead ...rta.Part) {
			parts := slices.Replace(slices.Clone(p.parts), i, i+1, instead...)
			list = append(list, less{plan{p.block, parts, p.list, p.most}, way})
		}
		with("part's cost", rta.Part{Period: one.Period, Cost: fewer(one.Cost)})
		with("part's period", rta.Part{Period: longer(one.Period), Cost: one.Cost})
		with("part")
	}
	for i, one := range p.list {
		with := func(way string, instead ...Early) {
			jobs := slices.Replace(slices.Clone(p.list), i, i+1, instead...)
			list = append(list, less{plan{p.block, p.parts, jobs, p.most}, way})
		}
		with("job's cost", Early{one.Period, one.Deadline, fewer(one.Cost)})
		with("job's period", Early{longer(one.Period), one.Deadline, one.Cost})
		with("job's deadline", Early{one.Period, longer(one.Deadline), one.Cost})
		with("job")
	}
	return list
}

// mended counts by ways how often something fits that did not before there was less of it.
type mended map[string]int

// hold looks whether less of what fits fits, in no longer a span, and whether less of what does not is too much no sooner.
func (m mended) hold(t *testing.T, p plan, of less) {
	t.Helper()
	a, b := p.fits(), of.fits()
	switch {
	case a.ok && (!b.ok || b.span > a.span), a.span > 0 && b.span == 0, !a.ok && a.span > 0 && !b.ok && b.span < a.span:
		t.Fatalf("Fits of %v: %v, but less by %s, %v: %v", p, a, of.way, of.plan, b)
	case b.ok && !a.ok:
		m[of.way]++
	}
	for _, span := range []int{0, 1, 7, b.span, maxSpan, most} {
		if x, y := Need(span, p.list), Need(span, of.list); y > x {
			t.Fatalf("Need(%d, %v): %d, but of %v %d", span, p.list, x, of.list, y)
		}
	}
	x, y := p.busy(), of.busy()
	if x.ok && (!y.ok || y.span > x.span) {
		t.Fatalf("Busy(%d, %v): %v, but of %d, %v %v", p.block, p.parts, x, of.block, of.parts, y)
	}
}

// told looks whether in each way enough was mended to tell something.
func (m mended) told(t *testing.T) {
	t.Helper()
	for _, way := range ways {
		if m[way] < 50 {
			t.Errorf("%s: %d fit then: the lists tell too little", way, m[way])
		}
	}
}

// P17.3: of all small lists, less of anything that fits fits.
func TestLessOfSmallLists(t *testing.T) {
	m := mended{}
	fewer, longer := func(x int) int { return x - 1 }, func(x int) int { return x + 1 }
	lists(manyParts([]int{0, 1, 2, 4}, []int{-1, 0, 1, 2}), 1, func(parts []rta.Part) {
		lists(manyJobs([]int{0, 1, 2, 4}, []int{-1, 0, 1, 2, 4}, []int{-1, 0, 1, 2, 3}), 1, func(list []Early) {
			for block := -1; block <= 3; block++ {
				for _, upTo := range []int{0, 1, 5, 12} {
					p := plan{block, parts, list, upTo}
					for _, of := range lessened(p, fewer, longer) {
						m.hold(t, p, of)
					}
				}
			}
		})
	})
	lists(manyJobs([]int{2, 3, 5}, []int{0, 1, 3, 5}, []int{1, 2}), 2, func(list []Early) {
		for _, parts := range [][]rta.Part{nil, {{Period: 4, Cost: 1}}, {{Period: 3, Cost: 1}, {Period: 6, Cost: 1}}} {
			for block := range 3 {
				p := plan{block, parts, list, 40}
				for _, of := range lessened(p, fewer, longer) {
					m.hold(t, p, of)
				}
			}
		}
	})
	m.told(t)
}

// P17.3: of many lists, less of anything that fits fits.
func TestLessOfManyLists(t *testing.T) {
	r := rand.New(rand.NewSource(176))
	m := mended{}
	for range 12000 {
		p, by := somePlan(r, 6), 1+r.Intn(1<<r.Intn(9))
		for _, of := range lessened(p, func(x int) int { return x - by }, func(x int) int { return x + by }) {
			m.hold(t, p, of)
		}
	}
	m.told(t)
}

// P17.3: whatever edges a plan is of, less of anything that fits fits.
func TestLessOfEdges(t *testing.T) {
	r := rand.New(rand.NewSource(177))
	rungs := []int{math.MinInt, -1, 0, 1, 2, 3, 7, 1000, maxSpan/2 + 1, maxSpan - 1, maxSpan, maxSpan + 1, most - 1, most, most + 1, math.MaxInt}
	rung := func() int { return rungs[r.Intn(len(rungs))] }
	fewer := func(x int) int { return rungs[r.Intn(1+slices.Index(rungs, x))] }
	longer := func(x int) int { at := slices.Index(rungs, x); return rungs[at+r.Intn(len(rungs)-at)] }
	m := mended{}
	for range 30000 {
		p := plan{rung(), make([]rta.Part, r.Intn(3)), make([]Early, r.Intn(3)), rungs[3+r.Intn(13)]}
		for i := range p.parts {
			p.parts[i] = rta.Part{Period: rung(), Cost: rung()}
		}
		for i := range p.list {
			p.list[i] = Early{rung(), rung(), rung()}
		}
		for _, of := range lessened(p, fewer, longer) {
			m.hold(t, p, of)
		}
	}
	m.told(t)
}

// R4: parts and jobs stay as they are, their spare room too, and are not kept.
func TestListsStay(t *testing.T) {
	room := []rta.Part{{Period: 10, Cost: 2}, {Period: -1, Cost: -5}, {Period: 77, Cost: 7}, {Period: 88, Cost: 8}, {Period: 99, Cost: 9}}
	jobRoom := []Early{{20, 8, 4}, {50, -3, -9}, {60, 6, 6}, {70, 7, 7}, {80, 8, 8}}
	parts, list := room[:2], jobRoom[:2]
	wasParts, wasJobs := slices.Clone(room), slices.Clone(jobRoom)
	for _, x := range append(slices.Clone(edges), 3, 8, 100) {
		Need(x, list)
		Busy(x, parts, 100)
		Busy(5, parts, x)
		Fits(x, parts, list, 100)
		Fits(0, parts, list, x)
		Fits(3, parts, list, x)
		Fits(x, parts[:0], list[:0], x)
		if !slices.Equal(room, wasParts) || !slices.Equal(jobRoom, wasJobs) {
			t.Fatalf("of %d: %v and %v are %v and %v now", x, wasParts, wasJobs, room, jobRoom)
		}
	}
	p := plan{3, parts, list, 100}
	before, need, busy := p.fits(), Need(8, list), p.busy()
	parts[0], list[0] = rta.Part{Period: 10, Cost: 1}, Early{20, 8, 3}
	if got := p.fits(); before != (fit{8, false}) || got != (fit{7, true}) {
		t.Errorf("Fits: %v, with less then %v", before, got)
	}
	if got := Need(8, list); need != 4 || got != 3 {
		t.Errorf("Need: %d, with less then %d", need, got)
	}
	if got := p.busy(); busy != (fit{5, true}) || got != (fit{4, true}) {
		t.Errorf("Busy: %v, with less then %v", busy, got)
	}
}

// R3: no list and one of nothing are the same.
func TestNoList(t *testing.T) {
	for _, x := range edges {
		needsAs(t, x, nil, 0)
		needsAs(t, x, []Early{}, 0)
		for _, upTo := range edges {
			p, q := plan{x, nil, nil, upTo}, plan{x, []rta.Part{}, []Early{}, upTo}
			if p.fits() != q.fits() || p.busy() != q.busy() || p.fits() != p.busy() {
				t.Fatalf("%v: %v and %v, %v: %v and %v", p, p.fits(), p.busy(), q, q.fits(), q.busy())
			}
		}
	}
}

// R5: the calls may be called from several goroutines at one time, of the same lists too.
func TestFromSeveralGoroutines(t *testing.T) {
	r := rand.New(rand.NewSource(178))
	plans := make([]plan, 200)
	for i := range plans {
		plans[i] = somePlan(r, 6)
	}
	var all sync.WaitGroup
	for range 8 {
		all.Go(func() {
			for _, p := range plans {
				want, busy := p.tried()
				if got := p.fits(); got != want {
					t.Errorf("Fits of %v: %v, not %v", p, got, want)
				}
				if got, want := Need(busy, p.list), counted(busy, p.list); got != want {
					t.Errorf("Need(%d, %v): %d, not %d", busy, p.list, got, want)
				}
			}
		})
	}
	all.Wait()
}

// P17.2: lists of as many parts and jobs as there is time for, each span of which is tried, and one more.
func TestFitsOfSizes(t *testing.T) {
	const half = maxSpan / 2
	for _, c := range []struct {
		parts, jobs, deadline int
		want                  fit
	}{
		{half, half, maxSpan, fit{maxSpan, true}}, {half, half, maxSpan - 1, fit{maxSpan - 1, false}}, {half, half, half, fit{half, false}}, {half, half, 1, fit{1, false}},
		{half, half + 1, maxSpan, fit{}}, {half + 1, half, maxSpan, fit{}}, {maxSpan, 0, 1, fit{maxSpan, true}}, {0, maxSpan, maxSpan, fit{maxSpan, true}}, {1 << 16, 1 << 16, 1, fit{}},
	} {
		p := plan{0, slices.Repeat([]rta.Part{{Period: maxSpan, Cost: 1}}, c.parts), slices.Repeat([]Early{{maxSpan, c.deadline, 1}}, c.jobs), math.MaxInt}
		if got := p.fits(); got != c.want {
			t.Errorf("Fits of %d parts and %d jobs due at %d: %v, not %v", c.parts, c.jobs, c.deadline, got, c.want)
		}
	}
}
