package admit

import (
	"math"
	"math/rand"
	"reflect"
	"slices"
	"sync"
	"testing"

	"coxswain/api"
	"coxswain/rta"
)

// The chapter's way: which tasks count is told by a method value; so is which tasks come ahead, and what a configuration may have.
var (
	_ func([]api.Task, func(api.Task) bool, func(api.Task) []int) [][]int = told[[]int]
	_ func(api.Task) bool                                                 = rival{}.counts
	_ func(api.Task) bool                                                 = rival{}.ahead
	_ func(api.Task) bool                                                 = config{}.isTask
	_ func(api.Task) bool                                                 = config{}.hurried
)

// From the document, in numbers: what each bound is, how long a section is but for its first tick, and how many ticks a top half takes.
const (
	most      = 1 << 40
	maxSpan   = 4096
	section   = 11
	topTicks  = 2
	allTasks  = 8
	allBest   = 6
	allMutex  = 6
	allLines  = 4
	allSteps  = 40
	allFrames = 64
	best      = 0
	early     = 1
	fixed     = 2
)

// from tells whether x is from low to high.
func from(low int, x int, high int) bool { return x >= low && x <= high }

// mayBe tells what the chapter says of which configurations may be.
func mayBe(c api.Config) bool {
	if len(c.Tasks) > allTasks || len(c.Best) > allBest || len(c.Mutexes) > allMutex || len(c.Gaps) > allLines {
		return false
	}
	ok := from(8, c.Frames, allFrames) && from(1, c.Dog, most)
	for _, m := range c.Mutexes {
		ok = ok && from(1, m.Rank, 100) && from(1, m.Limit, 1000)
	}
	for _, gap := range c.Gaps {
		ok = ok && from(1, gap, 1000)
	}
	for _, e := range c.Best {
		ok = ok && from(0, e.Level, 15) && len(e.Prog) <= allSteps
	}
	for i, t := range c.Tasks {
		ok = ok && taskMayBe(c, t)
		for j, other := range c.Tasks {
			ok = ok && (i == j || t.Line == -1 || t.Line != other.Line)
		}
	}
	return ok
}

// taskMayBe tells it of one task, but for those beside it.
func taskMayBe(c api.Config, t api.Task) bool {
	ok := t.Class == fixed && from(0, t.Level, 63) || t.Class == early && t.Level == 0
	ok = ok && from(1, t.Period, 1000000) && from(1, t.Deadline, t.Period) && from(1, t.Budget, t.Deadline)
	ok = ok && from(-1, t.Line, len(c.Gaps)-1) && len(t.Uses) <= allMutex && len(t.Prog) <= allSteps
	for _, m := range t.Uses {
		ok = ok && from(0, m, len(c.Mutexes)-1)
	}
	return ok
}

// reply is what is told of one task.
type reply struct {
	block    int
	parts    []rta.Part
	response int
	ok       bool
}

// same tells whether two replies are one and the same.
func (a reply) same(b reply) bool {
	return a.block == b.block && slices.Equal(a.parts, b.parts) && a.response == b.response && a.ok == b.ok
}

// asked is what the calls answer of one task.
func asked(c api.Config, task int) reply {
	response, ok := Response(c, task)
	return reply{Blocking(c, task), Parts(c, task), response, ok}
}

// book is what the promises say of one task of a configuration that may be.
func book(c api.Config, task int) reply {
	own := c.Tasks[task]
	r := reply{block: section}
	lowest := math.MaxInt
	for _, gap := range c.Gaps {
		r.parts = append(r.parts, rta.Part{Period: gap, Cost: topTicks})
	}
	for i, t := range c.Tasks {
		if own.Class == fixed && (t.Class != fixed || t.Level < own.Level) {
			continue
		}
		for _, m := range t.Uses {
			lowest = min(lowest, c.Mutexes[m].Rank)
		}
		if t.Class == fixed && i != task {
			r.parts = append(r.parts, rta.Part{Period: t.Period, Cost: t.Budget})
		}
	}
	for _, m := range c.Mutexes {
		if m.Rank >= lowest {
			r.block += m.Limit
		}
	}
	if own.Class == fixed {
		r.response, r.ok = over(own.Budget+r.block, r.parts, own.Deadline)
	} else if fit(r.block, r.parts, c.Tasks) {
		r.response, r.ok = own.Deadline, true
	}
	return r
}

// come tells how much the parts bring at just that moment, if all of them begin at 0.
func come(now int, parts []rta.Part) int {
	total := 0
	for _, p := range parts {
		if now%p.Period == 0 {
			total += p.Cost
		}
	}
	return total
}

// over tells by trying each span when a job is over, if that is by its deadline.
func over(need int, parts []rta.Part, deadline int) (int, bool) {
	for span := 1; span <= min(deadline, maxSpan); span++ {
		need += come(span-1, parts)
		if need <= span {
			return span, true
		}
	}
	return 0, false
}

// fit tells by trying each span whether the jobs by deadlines are in time.
func fit(ahead int, parts []rta.Part, tasks []api.Task) bool {
	all, due, late := 0, 0, false
	for span := 1; span <= maxSpan; span++ {
		ahead += come(span-1, parts)
		for _, t := range tasks {
			if t.Class == early && (span-1)%t.Period == 0 {
				all += t.Budget
			}
			if t.Class == early && span >= t.Deadline && (span-t.Deadline)%t.Period == 0 {
				due += t.Budget
			}
		}
		late = late || due > 0 && ahead+due > span
		if ahead+all <= span {
			return !late
		}
	}
	return false
}

// kinds counts configurations by what keeps them from being admitted; those that are, of no tasks and of some.
type kinds struct{ refused, fixed, early, line, dog, none, admitted int }

// verdict is what Admit promises; it is counted as the first thing that is wrong.
func (k *kinds) verdict(c api.Config, replies []reply) (bool, []int) {
	if !mayBe(c) {
		k.refused++
		return false, nil
	}
	var responses []int
	for i, t := range c.Tasks {
		switch {
		case !replies[i].ok && t.Class == fixed:
			k.fixed++
		case !replies[i].ok:
			k.early++
		case t.Line >= 0 && t.Period > c.Gaps[t.Line]:
			k.line++
		case t.Deadline >= c.Dog:
			k.dog++
		default:
			responses = append(responses, replies[i].response)
			continue
		}
		return false, nil
	}
	if len(c.Tasks) == 0 {
		k.none++
	} else {
		k.admitted++
	}
	return true, responses
}

// hold looks whether all calls answer of c what they promise.
func (k *kinds) hold(t *testing.T, c api.Config) (bool, []int) {
	t.Helper()
	may := mayBe(c)
	if got := May(c); got != may {
		t.Fatalf("May of %+v: %t", c, got)
	}
	var replies []reply
	for i := range c.Tasks {
		if may {
			replies = append(replies, book(c, i))
		} else {
			replies = append(replies, reply{})
		}
		if got := asked(c, i); !got.same(replies[i]) {
			t.Fatalf("of %+v task %d: %+v, not %+v", c, i, got, replies[i])
		}
	}
	for _, none := range []int{-1, len(c.Tasks)} {
		if got := asked(c, none); !got.same(reply{}) {
			t.Fatalf("of %+v task %d, which there is not: %+v", c, none, got)
		}
	}
	ok, responses := Admit(c)
	if wantOK, want := k.verdict(c, replies); ok != wantOK || !slices.Equal(responses, want) {
		t.Fatalf("Admit of %+v: %t, %v, not %t, %v", c, ok, responses, wantOK, want)
	}
	return ok, responses
}

// told looks whether there were enough of each kind that tells something.
func (k *kinds) told(t *testing.T, enough int, counts ...int) {
	t.Helper()
	if slices.Min(counts) < enough {
		t.Errorf("%+v: the configurations tell too little", *k)
	}
}

// example is the chapter's.
func example() api.Config {
	return api.Config{
		Tasks: []api.Task{
			{Class: api.Fixed, Level: 9, Period: 100, Deadline: 40, Budget: 5, Line: -1},
			{Class: api.Early, Period: 200, Deadline: 100, Budget: 10, Line: -1, Uses: []int{0}},
		},
		Mutexes: []api.Mutex{{Rank: 1, Limit: 6}},
		Frames:  8,
		Dog:     500,
	}
}

// whole has as much of everything as may be: fixed and early tasks in turns, some with a line, each with mutexes and a program.
func whole() api.Config {
	c := api.Config{Gaps: []int{1000, 500, 1, 70}, Frames: 20, Dog: 1000}
	for i := range allMutex {
		c.Mutexes = append(c.Mutexes, api.Mutex{Rank: 1 + 7*i%5, Limit: 3 + i})
	}
	for i := range allBest {
		c.Best = append(c.Best, api.Effort{Level: 15 - i, Prog: make([]api.Op, 4*i)})
	}
	for i := range allTasks {
		x := api.Task{Class: api.Fixed, Level: 10 + i%3, Period: 100 + i, Deadline: 50 + i, Budget: 1 + i, Line: i - 4, Uses: []int{5 - i%6, i % 6}, Prog: make([]api.Op, 5*i)}
		if i%2 == 1 {
			x.Class, x.Level = api.Early, 0
		}
		if x.Line < 0 {
			x.Line = -1
		}
		c.Tasks = append(c.Tasks, x)
	}
	return c
}

// copied is c in memory of its own.
func copied(c api.Config) api.Config {
	c.Tasks, c.Best, c.Mutexes, c.Gaps = slices.Clone(c.Tasks), slices.Clone(c.Best), slices.Clone(c.Mutexes), slices.Clone(c.Gaps)
	for i, x := range c.Tasks {
		c.Tasks[i].Uses, c.Tasks[i].Prog = slices.Clone(x.Uses), slices.Clone(x.Prog)
	}
	for i, x := range c.Best {
		c.Best[i].Prog = slices.Clone(x.Prog)
	}
	return c
}

// without is c without one of its tasks.
func without(c api.Config, task int) api.Config {
	c = copied(c)
	c.Tasks = slices.Delete(c.Tasks, task, task+1)
	return c
}

// with is c after a turn.
func with(c api.Config, turn func(c *api.Config)) api.Config {
	c = copied(c)
	turn(&c)
	return c
}

// bound is a number that has to lie from low to high; set puts it into a configuration such that nothing else there keeps it from being.
type bound struct {
	name      string
	low, high int
	set       func(c *api.Config, x int)
}

// bounds are all of whole's, at each place.
func bounds() []bound {
	list := []bound{
		{"Frames", 8, allFrames, func(c *api.Config, x int) { c.Frames = x }},
		{"Dog", 1, most, func(c *api.Config, x int) { c.Dog = x }},
	}
	for i := range allLines {
		list = append(list, bound{"a gap", 1, 1000, func(c *api.Config, x int) { c.Gaps[i] = x }})
	}
	for i := range allMutex {
		list = append(list, bound{"a rank", 1, 100, func(c *api.Config, x int) { c.Mutexes[i].Rank = x }})
		list = append(list, bound{"a limit", 1, 1000, func(c *api.Config, x int) { c.Mutexes[i].Limit = x }})
	}
	for i := range allBest {
		list = append(list, bound{"a thread's Level", 0, 15, func(c *api.Config, x int) { c.Best[i].Level = x }})
	}
	for i, x := range whole().Tasks {
		list = append(list, taskBounds(i, x)...)
	}
	return list
}

// taskBounds are those of one task.
func taskBounds(i int, task api.Task) []bound {
	times := func(period int, deadline int, budget int) func(c *api.Config) {
		return func(c *api.Config) {
			c.Tasks[i].Period, c.Tasks[i].Deadline, c.Tasks[i].Budget = period, deadline, budget
		}
	}
	list := []bound{
		{"Period by itself", 1, 1000000, func(c *api.Config, x int) { times(x, 1, 1)(c) }},
		{"Period by Deadline", 20, 1000000, func(c *api.Config, x int) { times(x, 20, 3)(c) }},
		{"Deadline by itself", 1, 60, func(c *api.Config, x int) { times(60, x, 1)(c) }},
		{"Deadline by Budget", 7, 60, func(c *api.Config, x int) { times(60, x, 7)(c) }},
		{"Budget", 1, 30, func(c *api.Config, x int) { times(60, 30, x)(c) }},
		{"all three", 1, 1000000, func(c *api.Config, x int) { times(x, x, x)(c) }},
		{"Line", -1, allLines - 1, func(c *api.Config, x int) { noLines(c); c.Tasks[i].Line = x }},
	}
	for at := range allMutex {
		list = append(list, bound{"a number of Uses", 0, allMutex - 1, func(c *api.Config, x int) {
			c.Tasks[i].Uses = make([]int, allMutex)
			c.Tasks[i].Uses[at] = x
		}})
	}
	levels := 0
	if task.Class == fixed {
		levels = 63
	}
	list = append(list, bound{"Level", 0, levels, func(c *api.Config, x int) { c.Tasks[i].Level = x }})
	return append(list, bound{"Class", early, fixed, func(c *api.Config, x int) { c.Tasks[i].Class, c.Tasks[i].Level = x, 0 }})
}

// noLines leaves all tasks to the script.
func noLines(c *api.Config) {
	for i := range c.Tasks {
		c.Tasks[i].Line = -1
	}
}

// strangers are numbers that lie within no bounds, some of which would if their higher bits, or their sign, were lost.
func strangers(b bound) []int {
	list := []int{math.MinInt, math.MinInt + 1, -b.high, -most, most + 1, math.MaxInt - 1, math.MaxInt}
	for _, bits := range []int{8, 16, 31, 32, 48, 63} {
		list = append(list, b.low+1<<bits, b.high+1<<bits, b.low-1<<bits)
	}
	return list
}

// about are the numbers about both of its bounds.
func (b bound) about() []int {
	return []int{b.low - 1, b.low, b.low + 1, (b.low + b.high) / 2, b.high - 1, b.high, b.high + 1}
}

// The examples of the chapter.
func TestExamples(t *testing.T) {
	c := example()
	if !asked(c, 0).same(reply{11, nil, 16, true}) || !asked(c, 1).same(reply{17, []rta.Part{{Period: 100, Cost: 5}}, 100, true}) {
		t.Errorf("%+v, %+v", asked(c, 0), asked(c, 1))
	}
	if ok, responses := Admit(c); !ok || !slices.Equal(responses, []int{16, 100}) {
		t.Errorf("Admit: %t, %v", ok, responses)
	}
	new(kinds).hold(t, c)
}

// P18.1: May of each number at, just within and just beyond each of its bounds, and of strange ones, at each place.
func TestBounds(t *testing.T) {
	if !May(whole()) {
		t.Fatal("what has as much of everything as may be")
	}
	k := new(kinds)
	for _, b := range bounds() {
		for _, x := range append(b.about(), strangers(b)...) {
			c := with(whole(), func(c *api.Config) { b.set(c, x) })
			if got := May(c); got != from(b.low, x, b.high) {
				t.Errorf("May with %d as %s: %t", x, b.name, got)
			}
			k.hold(t, c)
		}
	}
}

// P18.1: May of numbers, and of counts within tasks and threads, beyond their bounds and at them, each two places at one time: what is wrong with one is not made good by another.
func TestTwoBounds(t *testing.T) {
	may, not := 0, 0
	list := append(bounds(), innerLengths()...)
	bare := whole()
	for i := range bare.Tasks {
		bare.Tasks[i].Prog = nil
	}
	for i := range bare.Best {
		bare.Best[i].Prog = nil
	}
	for i, a := range list {
		for _, b := range list[i+1:] {
			for _, x := range []int{a.low - 1, a.low, a.high, a.high + 1} {
				for _, y := range []int{b.low - 1, b.low, b.high, b.high + 1} {
					c := with(bare, func(c *api.Config) { a.set(c, x); b.set(c, y) })
					if got := May(c); got != mayBe(c) {
						t.Fatalf("May with %d as %s, %d as %s: %t", x, a.name, y, b.name, got)
					} else if got {
						may++
					} else {
						not++
					}
				}
			}
		}
	}
	if may < 20000 || not < 20000 {
		t.Errorf("%d may be, %d not: they tell too little", may, not)
	}
}

// lengths are counts that have bounds, of one list each; set makes it so long, all else being such that nothing but its length counts.
func lengths() []bound {
	list := []bound{
		{"tasks", 0, allTasks, func(c *api.Config, n int) {
			c.Tasks = slices.Repeat([]api.Task{{Class: api.Fixed, Period: 1, Deadline: 1, Budget: 1, Line: -1}}, n)
		}},
		{"threads", 0, allBest, func(c *api.Config, n int) { c.Best = make([]api.Effort, n) }},
		{"mutexes", 0, allMutex, func(c *api.Config, n int) {
			for i := range c.Tasks {
				c.Tasks[i].Uses = nil
			}
			c.Mutexes = slices.Repeat([]api.Mutex{{Rank: 1, Limit: 1}}, n)
		}},
		{"gaps", 0, allLines, func(c *api.Config, n int) { noLines(c); c.Gaps = slices.Repeat([]int{9}, n) }},
	}
	return append(list, innerLengths()...)
}

// innerLengths are those of the lists within one task or thread; below 0 they are none.
func innerLengths() []bound {
	var list []bound
	for i := range allBest {
		list = append(list, bound{"a thread's steps", 0, allSteps, func(c *api.Config, n int) { c.Best[i].Prog = make([]api.Op, max(n, 0)) }})
	}
	for i := range allTasks {
		list = append(list, bound{"Uses", 0, allMutex, func(c *api.Config, n int) { c.Tasks[i].Uses = make([]int, max(n, 0)) }})
		list = append(list, bound{"a task's steps", 0, allSteps, func(c *api.Config, n int) { c.Tasks[i].Prog = make([]api.Op, max(n, 0)) }})
	}
	return list
}

// P18.1: May of each count from none to one too many, and of far too many, at each place.
func TestLengths(t *testing.T) {
	k := new(kinds)
	for _, b := range lengths() {
		for n := range b.high + 3 {
			c := with(whole(), func(c *api.Config) { b.set(c, n) })
			if got := May(c); got != (n <= b.high) {
				t.Errorf("May of %d %s: %t", n, b.name, got)
			}
			k.hold(t, c)
		}
		for _, n := range []int{2 * b.high, 256, 256 + b.high, 1 << 16} {
			if c := with(whole(), func(c *api.Config) { b.set(c, n) }); n > b.high && (May(c) || Blocking(c, 0) != 0) {
				t.Errorf("May of %d %s", n, b.name)
			}
		}
	}
}

// P18.1: May of two counts that are at their bounds or one past them.
func TestTwoLengths(t *testing.T) {
	list := lengths()
	for i, a := range list[:4] {
		for _, b := range list[:i] {
			for x := range 2 {
				for y := range 2 {
					c := with(whole(), func(c *api.Config) { a.set(c, a.high+x); b.set(c, b.high+y) })
					if got := May(c); got != (x+y == 0) {
						t.Errorf("May of %d %s, %d %s: %t", a.high+x, a.name, b.high+y, b.name, got)
					}
				}
			}
		}
	}
}

// P18.1: a line that there is one less than, and one as many as there are, for each count of lines.
func TestLinesOfSomeGaps(t *testing.T) {
	for n := range allLines + 1 {
		for at := -3; at <= allLines+1; at++ {
			c := with(example(), func(c *api.Config) { c.Gaps = slices.Repeat([]int{9}, n); c.Tasks[1].Line = at })
			if got := May(c); got != (at >= -1 && at < n) {
				t.Errorf("May of line %d of %d: %t", at, n, got)
			}
		}
	}
}

// P18.1: two tasks with one line, at each two places of each count of tasks; the same two with none, and with two.
func TestOneLine(t *testing.T) {
	for n := 2; n <= allTasks; n++ {
		for i := range n {
			for j := range i {
				for at := -1; at < allLines; at++ {
					c := with(whole(), func(c *api.Config) {
						noLines(c)
						c.Tasks = c.Tasks[:n]
						c.Tasks[i].Line, c.Tasks[j].Line = at, at
					})
					if got := May(c); got != (at == -1) {
						t.Errorf("May of tasks %d and %d with line %d: %t", j, i, at, got)
					}
					c.Tasks[j].Line = (at+2)%(allLines+1) - 1
					if !May(c) {
						t.Errorf("May of tasks %d and %d with lines %d and %d", j, i, c.Tasks[j].Line, at)
					}
				}
			}
		}
	}
}

// P18.1: all ways in which up to five tasks may have lines.
func TestAllLines(t *testing.T) {
	may := 0
	for _, n := range []int{1, 2, 3, 4, 5} {
		for way := range int(math.Pow(5, float64(n))) {
			c := with(whole(), func(c *api.Config) {
				c.Tasks = c.Tasks[:n]
				for i := range n {
					c.Tasks[i].Line = way%5 - 1
					way /= 5
				}
			})
			if got := May(c); got != mayBe(c) {
				t.Fatalf("May of %+v: %t", c.Tasks, got)
			} else if got {
				may++
			}
		}
	}
	if may < 800 {
		t.Errorf("%d may be: they tell too little", may)
	}
}

// P18.1: mutexes that there are none of in a task's Uses, for each count of mutexes; numbers that come twice, in any order.
func TestUses(t *testing.T) {
	for n := range allMutex + 1 {
		for _, uses := range [][]int{{0}, {n - 1}, {n}, {-1}, {n, 0}, {0, n}, {0, 0}, {n - 1, 0, n - 1}, {5, 4, 3, 2, 1, 0}, {-1, -1}, {math.MinInt}, {math.MaxInt}, {1 << 32}, {256}} {
			for task := range allTasks {
				c := with(whole(), func(c *api.Config) {
					for i := range c.Tasks {
						c.Tasks[i].Uses = nil
					}
					c.Mutexes = c.Mutexes[:n]
					c.Tasks[task].Uses = uses
				})
				if got := May(c); got != (slices.Min(uses) >= 0 && slices.Max(uses) < n) {
					t.Errorf("May of %v among %d mutexes: %t", uses, n, got)
				}
				new(kinds).hold(t, c)
			}
		}
	}
}

// P18.1: classes that there are not, of each Level; a task is none of best effort.
func TestClasses(t *testing.T) {
	for class := -2; class <= 5; class++ {
		for level := -2; level <= 66; level++ {
			want := class == fixed && from(0, level, 63) || class == early && level == 0
			for task := range 2 {
				c := with(example(), func(c *api.Config) { c.Tasks[task].Class, c.Tasks[task].Level = class, level })
				if got := May(c); got != want {
					t.Errorf("May of class %d, level %d: %t", class, level, got)
				}
				new(kinds).hold(t, c)
			}
		}
	}
}

// P18.1: each Period, Deadline and Budget of a few numbers, with one another.
func TestTimes(t *testing.T) {
	numbers := []int{-1, 0, 1, 2, 3, 40, 999999, 1000000, 1000001}
	for _, period := range numbers {
		for _, deadline := range numbers {
			for _, budget := range numbers {
				for task := range 2 {
					c := with(example(), func(c *api.Config) {
						c.Tasks[task].Period, c.Tasks[task].Deadline, c.Tasks[task].Budget = period, deadline, budget
					})
					want := from(1, period, 1000000) && from(1, deadline, period) && from(1, budget, deadline)
					if got := May(c); got != want {
						t.Errorf("May of period %d, deadline %d, budget %d: %t", period, deadline, budget, got)
					}
					new(kinds).hold(t, c)
				}
			}
		}
	}
}

// P18.1: steps that may not be are steps that do nothing: whatever stands in a program changes no answer.
func TestSteps(t *testing.T) {
	odd := []api.Op{{Kind: 99}, {Kind: -1}, {Kind: math.MinInt, A: math.MaxInt}, {Kind: api.OpWork, A: -5}, {Kind: api.OpLock, A: 77}, {Kind: api.OpNop, Call: api.Call{Sys: -3, S: string(make([]byte, 4000))}}, {Kind: api.OpDone}}
	for _, c := range []api.Config{example(), whole()} {
		ok, responses := Admit(c)
		for i := range c.Tasks {
			before := asked(c, i)
			changed := copied(c)
			for j := range c.Tasks {
				changed.Tasks[j].Prog = slices.Concat(odd, make([]api.Op, allSteps-len(odd)))
			}
			for j := range c.Best {
				changed.Best[j].Prog = slices.Repeat(odd[:1], allSteps)
			}
			if got := asked(changed, i); !May(changed) || !got.same(before) {
				t.Errorf("task %d of %+v: %+v, not %+v", i, changed, got, before)
			}
			if gotOK, got := Admit(changed); gotOK != ok || !slices.Equal(got, responses) {
				t.Errorf("Admit of %+v: %t, %v", changed, gotOK, got)
			}
		}
	}
}

// P18.1: nothing and little of everything.
func TestLittle(t *testing.T) {
	for _, c := range []struct {
		api.Config
		want bool
	}{
		{api.Config{}, false}, {api.Config{Frames: 8}, false}, {api.Config{Dog: 1}, false}, {api.Config{Frames: 8, Dog: 1}, true},
		{api.Config{Frames: 8, Dog: 1, Gaps: []int{1}}, true}, {api.Config{Frames: 8, Dog: 1, Mutexes: []api.Mutex{{}}}, false}, {api.Config{Frames: 8, Dog: 1, Mutexes: []api.Mutex{{Rank: 1, Limit: 1}}}, true},
		{api.Config{Frames: 8, Dog: 1, Best: []api.Effort{{}}}, true}, {api.Config{Frames: 8, Dog: 1, Tasks: []api.Task{{}}}, false},
		{api.Config{Frames: 8, Dog: 1, Tasks: []api.Task{{Class: api.Early, Period: 1, Deadline: 1, Budget: 1}}}, false},
		{api.Config{Frames: 8, Dog: 1, Gaps: []int{1}, Tasks: []api.Task{{Class: api.Early, Period: 1, Deadline: 1, Budget: 1}}}, true},
	} {
		if got := May(c.Config); got != c.want {
			t.Errorf("May of %+v: %t", c.Config, got)
		}
		new(kinds).hold(t, c.Config)
	}
}

// fix is a task by fixed priorities that has time for everything, soon one by deadlines.
func fix(level int, uses ...int) api.Task {
	return api.Task{Class: api.Fixed, Level: level, Period: 5000, Deadline: 4900, Budget: 1, Line: -1, Uses: uses}
}

func soon(uses ...int) api.Task {
	return api.Task{Class: api.Early, Period: 5000, Deadline: 4900, Budget: 1, Line: -1, Uses: uses}
}

// timed is x with these times.
func timed(x api.Task, period int, deadline int, budget int) api.Task {
	x.Period, x.Deadline, x.Budget = period, deadline, budget
	return x
}

// on is x released by a line.
func on(at int, x api.Task) api.Task {
	x.Line = at
	return x
}

// plain is a configuration of these tasks, with mutexes of which the limits tell each choice apart, and a dog that waits.
func plain(tasks ...api.Task) api.Config {
	return api.Config{Tasks: tasks, Mutexes: []api.Mutex{{Rank: 2, Limit: 10}, {Rank: 1, Limit: 1}, {Rank: 3, Limit: 100}, {Rank: 2, Limit: 1000}}, Frames: 8, Dog: 1000001}
}

// P18.1: Blocking by hand: nobody uses a mutex; those that count use some, the others ones of lesser and of greater rank; numbers that come twice, in any order.
func TestBlocking(t *testing.T) {
	// Of rank 3 on, of rank 2 on, of all.
	const high, middle, low = section + 100, section + 1110, section + 1111
	for _, c := range []struct {
		tasks []api.Task
		want  []int
	}{
		{[]api.Task{fix(5), fix(5), soon()}, []int{section, section, section}},
		{[]api.Task{fix(5, 2)}, []int{high}}, {[]api.Task{soon(2)}, []int{high}}, {[]api.Task{fix(5, 1)}, []int{low}}, {[]api.Task{soon(3)}, []int{middle}},
		{[]api.Task{fix(5, 2), fix(9), soon()}, []int{high, section, high}},
		{[]api.Task{fix(5), fix(9, 2)}, []int{high, high}}, {[]api.Task{fix(5), fix(6, 2)}, []int{high, high}},
		{[]api.Task{fix(5), fix(5, 0)}, []int{middle, middle}}, {[]api.Task{fix(5, 0), fix(5)}, []int{middle, middle}},
		{[]api.Task{fix(5), fix(4, 1)}, []int{section, low}}, {[]api.Task{fix(4, 1), fix(5)}, []int{low, section}},
		{[]api.Task{fix(5, 2), fix(4, 1), fix(6, 3), soon()}, []int{middle, low, middle, low}},
		{[]api.Task{fix(5, 0), fix(4, 2), fix(6)}, []int{middle, middle, section}},
		{[]api.Task{fix(5, 2), fix(6, 1), fix(4, 3)}, []int{low, low, low}},
		{[]api.Task{fix(5), soon(1)}, []int{section, low}}, {[]api.Task{fix(5, 1), soon()}, []int{low, low}},
		{[]api.Task{fix(5, 2), soon(1), soon()}, []int{high, low, low}}, {[]api.Task{soon(), soon(2)}, []int{high, high}}, {[]api.Task{soon(2), soon(3), soon(2)}, []int{middle, middle, middle}},
		{[]api.Task{fix(0), fix(63, 0)}, []int{middle, middle}}, {[]api.Task{fix(63), fix(0, 0)}, []int{section, middle}}, {[]api.Task{fix(0), soon(0)}, []int{section, middle}},
		{[]api.Task{fix(5, 2, 2)}, []int{high}}, {[]api.Task{fix(5, 2, 1)}, []int{low}}, {[]api.Task{fix(5, 1, 2)}, []int{low}}, {[]api.Task{fix(5, 0, 3, 0, 3, 0, 3)}, []int{middle}},
		{[]api.Task{fix(5, 2, 2), soon(2, 3, 3), fix(4, 2)}, []int{high, middle, high}},
	} {
		config := plain(c.tasks...)
		for i, want := range c.want {
			if got := Blocking(config, i); got != want {
				t.Errorf("Blocking of %+v, %d: %d, not %d", c.tasks, i, got, want)
			}
		}
		new(kinds).hold(t, config)
	}
}

// P18.1: Blocking of all mutexes at their greatest limits, and of one with the least.
func TestBlockingAtItsBounds(t *testing.T) {
	for rank := 1; rank <= 100; rank++ {
		c := plain(fix(5, 5))
		c.Mutexes = slices.Repeat([]api.Mutex{{Rank: rank, Limit: 1000}}, allMutex)
		if got := Blocking(c, 0); got != section+6000 {
			t.Errorf("Blocking of six of rank %d: %d", rank, got)
		}
		c.Mutexes[5].Rank = 100
		if want, got := section+1000, Blocking(c, 0); rank < 100 && got != want {
			t.Errorf("Blocking of the greatest of six: %d, not %d", got, want)
		}
		c.Mutexes, c.Tasks[0].Uses = []api.Mutex{{Rank: rank, Limit: 1}}, []int{0}
		if got := Blocking(c, 0); got != section+1 {
			t.Errorf("Blocking of one of rank %d: %d", rank, got)
		}
	}
}

// P18.1: each of two levels beside each other: which of them counts for which.
func TestLevels(t *testing.T) {
	for a := range 64 {
		for b := range 64 {
			c := plain(timed(fix(a, 2), 300, 250, 7), timed(fix(b, 0), 500, 400, 9))
			first, second := reply{block: section + 100}, reply{block: section + 1110}
			if b >= a {
				first.block, first.parts = section+1110, []rta.Part{{Period: 500, Cost: 9}}
			}
			if a >= b {
				second.parts = []rta.Part{{Period: 300, Cost: 7}}
			}
			for i, want := range []reply{first, second} {
				if Blocking(c, i) != want.block || !slices.Equal(Parts(c, i), want.parts) {
					t.Fatalf("of levels %d and %d, the one at %d: %d, %v", a, b, i, Blocking(c, i), Parts(c, i))
				}
			}
		}
	}
}

// P18.1: Parts by hand: lines ahead of tasks, both in order; of a task by fixed priorities those of its level or above, of one by deadlines all of these; never itself, and never one by deadlines.
func TestParts(t *testing.T) {
	a, b, c, d := timed(fix(5), 100, 90, 1), timed(fix(7), 200, 190, 2), timed(fix(5), 300, 290, 3), timed(fix(2), 400, 390, 4)
	x, y := timed(soon(), 500, 490, 5), timed(soon(), 600, 590, 6)
	pa, pb, pc, pd := rta.Part{Period: 100, Cost: 1}, rta.Part{Period: 200, Cost: 2}, rta.Part{Period: 300, Cost: 3}, rta.Part{Period: 400, Cost: 4}
	for _, row := range []struct {
		tasks []api.Task
		want  [][]rta.Part
	}{
		{nil, nil}, {[]api.Task{a}, [][]rta.Part{nil}}, {[]api.Task{x}, [][]rta.Part{nil}}, {[]api.Task{x, y}, [][]rta.Part{nil, nil}},
		{[]api.Task{a, a}, [][]rta.Part{{pa}, {pa}}}, {[]api.Task{a, x}, [][]rta.Part{nil, {pa}}}, {[]api.Task{x, a, y}, [][]rta.Part{{pa}, nil, {pa}}},
		{[]api.Task{a, b, c, d, x, y}, [][]rta.Part{{pb, pc}, nil, {pa, pb}, {pa, pb, pc}, {pa, pb, pc, pd}, {pa, pb, pc, pd}}},
		{[]api.Task{d, x, c, b, y, a}, [][]rta.Part{{pc, pb, pa}, {pd, pc, pb, pa}, {pb, pa}, nil, {pd, pc, pb, pa}, {pc, pb}}},
		{[]api.Task{a, a, a}, [][]rta.Part{{pa, pa}, {pa, pa}, {pa, pa}}}, {[]api.Task{d, d, b}, [][]rta.Part{{pd, pb}, {pd, pb}, nil}},
	} {
		for _, gaps := range [][]int{nil, {30}, {30, 7}, {9, 9, 1000, 1}} {
			config := plain(row.tasks...)
			config.Gaps = gaps
			var lines []rta.Part
			for _, gap := range gaps {
				lines = append(lines, rta.Part{Period: gap, Cost: 2})
			}
			for i, want := range row.want {
				if got := Parts(config, i); !slices.Equal(got, slices.Concat(lines, want)) {
					t.Errorf("Parts of %+v, %d: %v, not %v and %v", config, i, got, lines, want)
				}
			}
			new(kinds).hold(t, config)
		}
	}
}

// P18.1: Blocking, Parts and Response of a task that there is not, and of any if a configuration may not be.
func TestNoTask(t *testing.T) {
	numbers := []int{math.MinInt, -1 << 32, -allTasks, -2, -1, 1 << 8, 1 << 16, 1 << 32, 1<<32 + 1, math.MaxInt - 1, math.MaxInt}
	for _, c := range []api.Config{example(), whole(), plain(), plain(fix(1)), plain(soon())} {
		for _, task := range append(numbers, len(c.Tasks), len(c.Tasks)+1, allTasks+1) {
			if got := asked(c, task); !got.same(reply{}) {
				t.Errorf("of %d tasks the one at %d: %+v", len(c.Tasks), task, got)
			}
		}
		c.Frames = 7
		for task := range allTasks {
			if got := asked(c, task); !got.same(reply{}) {
				t.Errorf("of a configuration that may not be the one at %d: %+v", task, got)
			}
		}
		if ok, responses := Admit(c); ok || len(responses) > 0 {
			t.Errorf("Admit of one that may not be: %v", responses)
		}
	}
}

// P18.1: Response by hand: just at the deadline, with one tick less, and at MaxSpan.
func TestResponse(t *testing.T) {
	gap := func(gaps []int, tasks ...api.Task) api.Config {
		c := plain(tasks...)
		c.Gaps = gaps
		return c
	}
	for _, row := range []struct {
		api.Config
		task, least, response int // the least deadline with which it is one, and that
	}{
		{plain(timed(fix(5), 500, 500, 1)), 0, 12, 12}, {plain(timed(fix(5), 500, 500, 9)), 0, 20, 20},
		{plain(timed(fix(5, 2), 500, 500, 9)), 0, 120, 120}, {plain(timed(fix(5), 500, 500, 9), fix(4, 1)), 0, 20, 20}, {plain(timed(fix(5), 500, 500, 9), fix(5, 2)), 0, 121, 121},
		{plain(timed(fix(5), 500, 500, 9), timed(fix(6), 20, 20, 3)), 0, 26, 26}, {plain(timed(fix(5), 500, 500, 9), timed(fix(4), 20, 20, 3)), 0, 20, 20},
		{plain(timed(fix(6), 15, 15, 1), timed(fix(5), 500, 500, 9)), 1, 22, 22}, {plain(timed(fix(5), 23, 23, 1), timed(fix(5), 500, 500, 9)), 1, 21, 21},
		{gap([]int{5}, timed(fix(5), 500, 500, 3)), 0, 24, 24}, {gap([]int{30, 7}, timed(fix(5), 500, 500, 3)), 0, 24, 24},
		{plain(timed(fix(5), 500, 500, 9), timed(soon(), 20, 20, 9)), 0, 20, 20},
		{plain(timed(fix(5), 5000, 5000, 4085)), 0, 4096, 4096},
		{plain(timed(soon(), 500, 500, 10)), 0, 21, -1}, {plain(timed(soon(2), 500, 500, 10)), 0, 121, -1}, {plain(timed(soon(), 500, 500, 10), fix(5, 2)), 0, 122, -1},
		{plain(timed(soon(), 500, 500, 10), timed(fix(0), 30, 30, 5)), 0, 26, -1}, {plain(timed(soon(), 500, 500, 20), timed(fix(0), 30, 30, 5)), 0, 41, -1},
		{plain(timed(soon(), 500, 500, 10), timed(soon(), 500, 31, 10)), 0, 21, -1}, {plain(timed(soon(), 500, 500, 10), timed(soon(), 500, 30, 10)), 0, 31, -1},
		{gap([]int{5}, timed(soon(), 500, 500, 3)), 0, 24, -1}, {plain(timed(soon(), 5000, 5000, 4085)), 0, 4096, -1},
	} {
		for deadline := row.Tasks[row.task].Budget; deadline <= row.Tasks[row.task].Period; deadline++ {
			c := with(row.Config, func(c *api.Config) { c.Tasks[row.task].Deadline = deadline })
			want, ok := row.response, deadline >= row.least
			if want < 0 {
				want = deadline
			}
			if !ok {
				want = 0
			}
			if got, gotOK := Response(c, row.task); got != want || gotOK != ok {
				t.Fatalf("Response of %+v, %d: %d, %t, not %d", c.Tasks, row.task, got, gotOK, want)
			}
		}
		new(kinds).hold(t, row.Config)
	}
}

// P18.1: no response where not all gets done in MaxSpan, whatever the deadline, and where lines leave no time; a deadline above MaxSpan is one.
func TestMaxSpan(t *testing.T) {
	for _, row := range []struct {
		gaps  []int
		tasks []api.Task
		want  []int
	}{
		{nil, []api.Task{timed(fix(5), 1000000, 1000000, 4085)}, []int{4096}}, {nil, []api.Task{timed(fix(5), 1000000, 1000000, 4086)}, []int{0}},
		{nil, []api.Task{timed(fix(5), 1000000, 4096, 4085)}, []int{4096}}, {nil, []api.Task{timed(fix(5), 1000000, 4095, 4085)}, []int{0}},
		{nil, []api.Task{timed(soon(), 1000000, 1000000, 4085)}, []int{1000000}}, {nil, []api.Task{timed(soon(), 1000000, 1000000, 4086)}, []int{0}},
		{nil, []api.Task{timed(soon(), 1000000, 4096, 4085)}, []int{4096}}, {nil, []api.Task{timed(soon(), 1000000, 4095, 4085)}, []int{0}},
		{nil, []api.Task{timed(soon(), 9000, 9000, 2000), timed(soon(), 9000, 8000, 2085)}, []int{9000, 8000}}, {nil, []api.Task{timed(soon(), 9000, 9000, 2000), timed(soon(), 9000, 8000, 2086)}, []int{0, 0}},
		{nil, []api.Task{timed(fix(5), 9000, 9000, 2000), timed(fix(4), 9000, 8000, 2085)}, []int{2011, 4096}}, {nil, []api.Task{timed(fix(5), 9000, 9000, 2000), timed(fix(4), 9000, 8000, 2086)}, []int{2011, 0}},
		{[]int{2}, []api.Task{fix(5), soon()}, []int{0, 0}}, {[]int{1}, []api.Task{fix(5), soon()}, []int{0, 0}}, {[]int{3}, []api.Task{fix(5), soon()}, []int{36, 4900}},
		{nil, []api.Task{timed(fix(5), 1, 1, 1), fix(4), soon()}, []int{0, 0, 0}}, {nil, []api.Task{timed(soon(), 1, 1, 1), fix(4)}, []int{0, 12}},
	} {
		c := plain(row.tasks...)
		c.Gaps = row.gaps
		for i, want := range row.want {
			if got, ok := Response(c, i); got != want || ok != (want > 0) {
				t.Errorf("Response of %+v, %d: %d, %t, not %d", c, i, got, ok, want)
			}
		}
		new(kinds).hold(t, c)
	}
}

// lists calls do with each list of up to length of these.
func lists[T any](of []T, length int, do func(list []T)) {
	var longer func(list []T)
	longer = func(list []T) {
		do(list)
		if len(list) < length {
			for _, x := range of {
				longer(append(slices.Clone(list), x))
			}
		}
	}
	longer(nil)
}

// P18.1: Blocking and Parts of up to three tasks of few levels and uses, with mutexes of few ranks.
func TestBlockingOfSmallConfigurations(t *testing.T) {
	var tasks []api.Task
	for _, uses := range [][]int{nil, {0}, {1}, {2}, {2, 0}, {1, 2}, {0, 0, 1}} {
		tasks = append(tasks, timed(fix(1, uses...), 90, 21, 1), timed(fix(2, uses...), 70, 19, 2), timed(soon(uses...), 50, 24, 3))
	}
	for _, mutexes := range [][]api.Mutex{{{Rank: 1, Limit: 1}, {Rank: 2, Limit: 2}, {Rank: 3, Limit: 4}}, {{Rank: 3, Limit: 1}, {Rank: 1, Limit: 2}, {Rank: 2, Limit: 4}}, {{Rank: 2, Limit: 1}, {Rank: 1, Limit: 2}, {Rank: 2, Limit: 4}}, {{Rank: 7, Limit: 1}, {Rank: 7, Limit: 2}, {Rank: 7, Limit: 4}}} {
		k := new(kinds)
		lists(tasks, 3, func(list []api.Task) {
			c := plain(list...)
			c.Mutexes, c.Gaps = mutexes, []int{70}[:len(list)%2]
			k.hold(t, c)
		})
		k.told(t, 200, k.admitted, k.fixed, k.early)
	}
}

// P18.1, P18.2: all configurations of up to two tasks of few times, lines, levels, with few lines and dogs, and of many of three.
func TestSmallConfigurations(t *testing.T) {
	var tasks []api.Task
	for _, x := range []api.Task{fix(0), fix(1), soon(), fix(0, 0), soon(0)} {
		for _, at := range []int{-1, 0, 1} {
			for _, times := range [][3]int{{30, 30, 1}, {40, 13, 2}, {20, 20, 8}, {60, 31, 5}} {
				tasks = append(tasks, on(at, timed(x, times[0], times[1], times[2])))
			}
		}
	}
	k := new(kinds)
	for _, gaps := range [][]int{nil, {39}, {30, 60}} {
		for _, dog := range []int{1, 30, 31, 32} {
			lists(tasks, 2, func(list []api.Task) {
				k.hold(t, api.Config{Tasks: list, Gaps: gaps, Mutexes: []api.Mutex{{Rank: 1, Limit: 3}}, Frames: 8, Dog: dog})
			})
		}
	}
	lists(tasks[:36], 3, func(list []api.Task) {
		k.hold(t, api.Config{Tasks: list, Gaps: []int{60, 40}, Frames: 8, Dog: 32})
	})
	k.told(t, 100, k.refused, k.fixed, k.early, k.line, k.dog, k.admitted)
}

// some is a configuration of which most may be, and which is admitted now and then.
func some(r *rand.Rand) api.Config {
	c := api.Config{Frames: 8 + r.Intn(57), Dog: 1 + r.Intn(3000)}
	for range r.Intn(allLines + 1) {
		c.Gaps = append(c.Gaps, 5+r.Intn(1<<(3+r.Intn(7))))
	}
	for range r.Intn(allMutex + 1) {
		c.Mutexes = append(c.Mutexes, api.Mutex{Rank: 1 + r.Intn(5), Limit: 1 + r.Intn(30)})
	}
	for range r.Intn(allBest + 1) {
		c.Best = append(c.Best, api.Effort{Level: r.Intn(16), Prog: make([]api.Op, r.Intn(3))})
	}
	lines, weight := r.Perm(len(c.Gaps)), 1+r.Intn(40)
	for range r.Intn(allTasks + 1) {
		x := timed(soon(), 1+r.Intn(1000), 0, 0)
		if r.Intn(2) == 0 {
			x.Class, x.Level = api.Fixed, r.Intn(4)
		}
		if len(lines) > 0 && r.Intn(3) == 0 {
			x.Line, lines = lines[0], lines[1:]
			x.Period = max(1, c.Gaps[x.Line]-r.Intn(40)+r.Intn(30))
		}
		for range r.Intn(3) * min(len(c.Mutexes), 1) {
			x.Uses = append(x.Uses, r.Intn(len(c.Mutexes)))
		}
		x.Deadline = x.Period - r.Intn(x.Period)*r.Intn(2)
		x.Budget = 1 + r.Intn(max(1, x.Deadline/weight))
		c.Tasks = append(c.Tasks, x)
	}
	if r.Intn(15) == 0 {
		broken(r, &c)
	}
	return c
}

// broken puts one number beyond its bounds, or another one at them.
func broken(r *rand.Rand, c *api.Config) {
	turns := []func(){
		func() { c.Frames = []int{7, 8, 64, 65}[r.Intn(4)] },
		func() { c.Dog = []int{0, 1, most, most + 1}[r.Intn(4)] },
		func() { c.Gaps = append(c.Gaps, []int{0, 1, 1000, 1001}[r.Intn(4)]) },
		func() { c.Mutexes = append(c.Mutexes, api.Mutex{Rank: r.Intn(2) * 100, Limit: 1 + r.Intn(2)*1000}) },
		func() { c.Best = append(c.Best, api.Effort{Level: 15 + r.Intn(2)}) },
		func() { c.Tasks = append(c.Tasks, timed(fix(63+r.Intn(2)), 400, 399+r.Intn(3), 1+r.Intn(2))) },
		func() { c.Tasks = append(c.Tasks, on(r.Intn(4)-2, soon(r.Intn(6)-1))) },
	}
	turns[r.Intn(len(turns))]()
}

// P18.1, P18.2: many configurations of all kinds.
func TestManyConfigurations(t *testing.T) {
	r := rand.New(rand.NewSource(181))
	k := new(kinds)
	for range 20000 {
		k.hold(t, some(r))
	}
	k.told(t, 500, k.refused, k.none, k.fixed, k.early, k.line, k.dog, k.admitted)
}

// P18.1: tasks in another order: what is told of a task hangs on the places only in the order of its parts.
func TestInEachOrder(t *testing.T) {
	r := rand.New(rand.NewSource(182))
	for range 3000 {
		c := some(r)
		places := r.Perm(len(c.Tasks))
		turned := copied(c)
		for i, at := range places {
			turned.Tasks[at] = c.Tasks[i]
		}
		for i, at := range places {
			a, b := asked(c, i), asked(turned, at)
			byPeriod := func(x, y rta.Part) int { return (x.Period-y.Period)*most + x.Cost - y.Cost }
			slices.SortFunc(a.parts, byPeriod)
			slices.SortFunc(b.parts, byPeriod)
			if !a.same(b) {
				t.Fatalf("of %+v task %d: %+v, but in another order %+v", c, i, a, b)
			}
		}
	}
}

// ahead tells how many ticks of others there are ahead of own's job when all of them begin at one time, for each tick since: top halves, and fixed tasks that are as urgent.
func (p *processor) ahead(own int, now int) {
	for _, gap := range p.c.Gaps {
		if now%gap == 0 {
			p.others += topTicks
		}
	}
	for i, x := range p.c.Tasks {
		if i != own && x.Class == fixed && x.Level >= p.c.Tasks[own].Level && now%x.Period == 0 {
			p.others += x.Budget
		}
	}
}

// processor does first what holds up a job, then what comes ahead of it, then that job, a tick at a time.
type processor struct {
	c                  api.Config
	block, others, own int
}

// played tells when a fixed task's job is over, if that is by its deadline.
func played(c api.Config, task int, block int) (int, bool) {
	p := processor{c: c, block: block, own: c.Tasks[task].Budget}
	for now := range min(c.Tasks[task].Deadline, maxSpan) {
		p.ahead(task, now)
		switch {
		case p.block > 0:
			p.block--
		case p.others > 0:
			p.others--
		default:
			p.own--
		}
		if p.own == 0 {
			return now + 1, true
		}
	}
	return 0, false
}

// P18.1: a fixed task's response is when its job is over, if it is held up for Blocking, and all that is as urgent comes at the same time and as often as it may.
func TestResponseIsPlayed(t *testing.T) {
	r := rand.New(rand.NewSource(183))
	in, late := 0, 0
	for range 8000 {
		c := some(r)
		for i, x := range c.Tasks {
			if x.Class != fixed || !mayBe(c) {
				continue
			}
			want, wantOK := played(c, i, Blocking(c, i))
			if got, ok := Response(c, i); got != want || ok != wantOK {
				t.Fatalf("Response of %+v, %d: %d, %t, but played %d, %t", c, i, got, ok, want, wantOK)
			}
			if wantOK {
				in++
			} else {
				late++
			}
		}
	}
	if in < 3000 || late < 3000 {
		t.Errorf("%d in time, %d not: the configurations tell too little", in, late)
	}
}

// chosen is who runs, and for how many ticks more he is not put off: a task, or one of these.
type chosen struct{ who, stays int }

const (
	nobody  = -1
	topHalf = -2
)

// machine lets run what a configuration without mutexes declares, sections being as long as they may: top halves first, then fixed tasks by levels, then early ones by dues, and threads of best effort whenever nothing else is to be done.
type machine struct {
	c              api.Config
	r              *rand.Rand
	slack          int // one in so many ticks something comes that may
	pending        int
	now            chosen
	left, came     []int
	lineAt, taskAt []int
}

func newMachine(c api.Config, r *rand.Rand, slack int) *machine {
	m := &machine{c: c, r: r, slack: slack, left: make([]int, len(c.Tasks)), came: make([]int, len(c.Tasks)), lineAt: make([]int, len(c.Gaps)), taskAt: make([]int, len(c.Tasks))}
	for i := range m.lineAt {
		m.lineAt[i] = 1
	}
	for i := range m.taskAt {
		m.taskAt[i] = 1
	}
	return m
}

// arrive lets interrupts and releases come.
func (m *machine) arrive(now int) {
	for i, gap := range m.c.Gaps {
		if now < m.lineAt[i] || m.r.Intn(m.slack) > 0 {
			continue
		}
		m.pending++
		m.lineAt[i] = now + gap
		for j, x := range m.c.Tasks {
			if x.Line == i {
				m.release(j, now)
			}
		}
	}
	for i, x := range m.c.Tasks {
		if x.Line == -1 && m.r.Intn(m.slack) == 0 {
			m.release(i, now)
		}
	}
}

// release lets a job begin, if the task's last one is over, and as long ago as it must.
func (m *machine) release(task int, now int) {
	if now >= m.taskAt[task] && m.left[task] == 0 {
		m.left[task], m.came[task], m.taskAt[task] = m.c.Tasks[task].Budget, now, now+m.c.Tasks[task].Period
	}
}

// before tells whether task a's job runs ahead of b's.
func (m *machine) before(a int, b int) bool {
	x, y := m.c.Tasks[a], m.c.Tasks[b]
	if x.Class != y.Class {
		return x.Class == fixed
	}
	if x.Class == fixed {
		return x.Level > y.Level
	}
	return m.came[a]+x.Deadline < m.came[b]+y.Deadline
}

// choose tells who runs next.
func (m *machine) choose() chosen {
	if m.pending > 0 {
		m.pending--
		return chosen{topHalf, topTicks}
	}
	first := nobody
	for i, left := range m.left {
		if left > 0 && (first == nobody || m.before(i, first)) {
			first = i
		}
	}
	if first == nobody {
		return chosen{nobody, section + 1}
	}
	return chosen{first, min(m.left[first], []int{1, section + 1}[m.r.Intn(2)])}
}

// tick runs one tick, and tells whose job was over with it, or nobody.
func (m *machine) tick(now int) int {
	m.arrive(now)
	if m.now.stays == 0 {
		m.now = m.choose()
	}
	m.now.stays--
	who := m.now.who
	if who < 0 {
		return nobody
	}
	m.left[who]--
	if m.left[who] > 0 {
		return nobody
	}
	return who
}

// P18.2: of what is admitted each job is over by its task's response, whenever interrupts and jobs come and wherever sections begin; of what is not, some are late.
func TestWhatIsAdmittedIsInTime(t *testing.T) {
	r := rand.New(rand.NewSource(184))
	admitted, reached, late := 0, 0, 0
	for range 4000 {
		c := some(r)
		for i := range c.Tasks {
			c.Tasks[i].Uses = nil
		}
		ok, responses := Admit(c)
		if ok && len(responses) > 0 {
			admitted++
		}
		for _, slack := range []int{1, 2, 20} {
			m := newMachine(c, r, slack)
			for now := range 400 {
				who := m.tick(now)
				if who == nobody {
					continue
				}
				took := now + 1 - m.came[who]
				if ok && took > responses[who] {
					t.Fatalf("of %+v a job of task %d took %d: %v", c, who, took, responses)
				}
				if ok && took == responses[who] {
					reached++
				}
				if took > c.Tasks[who].Deadline {
					late++
				}
			}
		}
	}
	if admitted < 500 || reached < 500 || late < 500 {
		t.Errorf("%d admitted, %d jobs at their response, %d late: the configurations tell too little", admitted, reached, late)
	}
}

// P18.2: Admit by hand: of no tasks, of one, of several.
func TestAdmit(t *testing.T) {
	for _, row := range []struct {
		api.Config
		want []int
	}{
		{plain(), []int{}}, {api.Config{Frames: 8, Dog: 1}, []int{}}, {api.Config{Frames: 8, Dog: 1, Gaps: []int{1, 1, 1, 1}, Best: make([]api.Effort, 6)}, []int{}},
		{plain(fix(5)), []int{12}}, {plain(soon()), []int{4900}}, {plain(fix(5), fix(5)), []int{13, 13}}, {plain(fix(5), fix(6)), []int{13, 12}}, {plain(soon(), fix(5, 2)), []int{4900, 112}},
		{plain(timed(fix(5), 11, 11, 1)), nil}, {plain(timed(fix(5), 12, 12, 1)), []int{12}}, {plain(timed(soon(), 11, 11, 1)), nil}, {plain(timed(soon(), 12, 12, 1)), []int{12}},
		{plain(timed(fix(5), 12, 12, 1), fix(5)), nil}, {plain(timed(fix(5), 13, 13, 1), fix(5)), []int{13, 13}}, {plain(timed(fix(5), 12, 12, 1), fix(4)), []int{12, 14}},
		{plain(slices.Repeat([]api.Task{timed(fix(5), 40, 19, 1)}, 8)...), slices.Repeat([]int{19}, 8)}, {plain(slices.Repeat([]api.Task{timed(fix(5), 40, 18, 1)}, 8)...), nil},
		{plain(slices.Repeat([]api.Task{timed(soon(), 40, 19, 1)}, 8)...), slices.Repeat([]int{19}, 8)}, {plain(slices.Repeat([]api.Task{timed(soon(), 40, 18, 1)}, 8)...), nil},
	} {
		ok, responses := Admit(row.Config)
		if ok != (row.want != nil) || !slices.Equal(responses, row.want) {
			t.Errorf("Admit of %+v: %t, %v, not %v", row.Config, ok, responses, row.want)
		}
		new(kinds).hold(t, row.Config)
	}
}

// P18.2: one task alone has no response, at each place of each count, of each class; with one tick more it is well.
func TestOneWithoutResponse(t *testing.T) {
	for n := 1; n <= allTasks; n++ {
		for at := range n {
			for _, x := range []api.Task{fix(9), soon()} {
				tasks := slices.Repeat([]api.Task{fix(5)}, n)
				need := section + 1
				if x.Class == early {
					need += n - 1
				}
				tasks[at] = timed(x, 5000, need-1, 1)
				c := plain(tasks...)
				if ok, responses := Admit(c); ok || len(responses) > 0 {
					t.Errorf("Admit of %+v: %v", c, responses)
				}
				c.Tasks[at].Deadline++
				ok, responses := Admit(c)
				if !ok || len(responses) != n || responses[at] != need {
					t.Errorf("Admit of %+v: %t, %v", c, ok, responses)
				}
			}
		}
	}
}

// P18.2: a gap that is just a task's Period, one more and one less, of each line, at each place of each count, of each class; other gaps do not count.
func TestGapOfALine(t *testing.T) {
	for n := 1; n <= allTasks; n++ {
		for place := range n {
			for at := range allLines {
				for _, x := range []api.Task{fix(5), soon()} {
					for _, gap := range []int{1, 299, 300, 301, 1000} {
						tasks := slices.Repeat([]api.Task{fix(5)}, n)
						tasks[place] = on(at, timed(x, 300, 300, 1))
						c := plain(tasks...)
						c.Gaps = slices.Repeat([]int{200}, allLines)
						c.Gaps[at] = gap
						if ok, responses := Admit(c); ok != (gap >= 300) || len(responses) != n && ok || len(responses) > 0 && !ok {
							t.Fatalf("Admit of %+v: %t, %v", c, ok, responses)
						}
						if c.Tasks[place].Line = -1; gap == 299 {
							new(kinds).hold(t, c)
							if ok, _ := Admit(c); !ok {
								t.Fatalf("Admit of %+v, with no line for %d", c, place)
							}
						}
					}
				}
			}
		}
	}
}

// P18.2: a Dog that is a Deadline, one above it, one below it, at each place of each count, of each class; without tasks any will do.
func TestDog(t *testing.T) {
	for n := range allTasks + 1 {
		for place := range n {
			for _, x := range []api.Task{fix(5), soon()} {
				tasks := slices.Repeat([]api.Task{timed(fix(5), 5000, 200, 1)}, n)
				tasks[place] = timed(x, 5000, 300, 1)
				c := plain(tasks...)
				for _, dog := range []int{1, 200, 201, 299, 300, 301, 5000, most} {
					c.Dog = dog
					if ok, responses := Admit(c); ok != (dog > 300) || len(responses) != n && ok || len(responses) > 0 && !ok {
						t.Errorf("Admit of %+v: %t, %v", c, ok, responses)
					}
				}
			}
		}
	}
	for _, dog := range []int{1, 2, most} {
		if ok, responses := Admit(api.Config{Frames: 8, Dog: dog}); !ok || len(responses) > 0 {
			t.Errorf("Admit of no tasks, Dog %d: %t, %v", dog, ok, responses)
		}
	}
}

// fewer looks whether c without each of its tasks is admitted, if it is, and no response gets longer; it tells how often it is when c is not.
func fewer(t *testing.T, c api.Config) (kept int, mended int) {
	t.Helper()
	ok, before := Admit(c)
	for i := range c.Tasks {
		less := without(c, i)
		now, after := Admit(less)
		if ok && !now {
			t.Fatalf("Admit of %+v: %v, but not without task %d", c, before, i)
		}
		if ok {
			kept++
			for j, was := range slices.Delete(slices.Clone(before), i, i+1) {
				if after[j] > was {
					t.Fatalf("Admit of %+v: %v, but without task %d %v", c, before, i, after)
				}
			}
		} else if now {
			mended++
		}
	}
	return kept, mended
}

// P18.3: many configurations without each of their tasks.
func TestWithoutEachTask(t *testing.T) {
	r := rand.New(rand.NewSource(185))
	kept, mended := 0, 0
	for range 25000 {
		k, m := fewer(t, some(r))
		kept, mended = kept+k, mended+m
	}
	if kept < 5000 || mended < 2000 {
		t.Errorf("%d kept, %d mended: the configurations tell too little", kept, mended)
	}
}

// P18.3: configurations of many tasks without each of them, and without one after another, down to none.
func TestDownToNone(t *testing.T) {
	r := rand.New(rand.NewSource(186))
	great := 0
	for range 60000 {
		c := some(r)
		if ok, _ := Admit(c); !ok || len(c.Tasks) < 5 {
			continue
		}
		great++
		for len(c.Tasks) > 0 {
			fewer(t, c)
			c = without(c, r.Intn(len(c.Tasks)))
		}
	}
	if great < 300 {
		t.Errorf("%d admitted: the configurations tell too little", great)
	}
}

// P18.3: all small configurations without each of their tasks.
func TestWithoutEachTaskOfSmallOnes(t *testing.T) {
	var tasks []api.Task
	for _, x := range []api.Task{fix(0), fix(1, 1), soon(), soon(0)} {
		for _, at := range []int{-1, 0} {
			for _, times := range [][3]int{{30, 30, 1}, {40, 17, 2}, {60, 31, 5}} {
				tasks = append(tasks, on(at, timed(x, times[0], times[1], times[2])))
			}
		}
	}
	kept, mended := 0, 0
	lists(tasks, 3, func(list []api.Task) {
		c := api.Config{Tasks: list, Gaps: []int{40}, Mutexes: []api.Mutex{{Rank: 1, Limit: 3}, {Rank: 2, Limit: 5}}, Frames: 8, Dog: 32}
		k, m := fewer(t, c)
		kept, mended = kept+k, mended+m
	})
	if kept < 300 || mended < 300 {
		t.Errorf("%d kept, %d mended: the configurations tell too little", kept, mended)
	}
}

// roomy is c with spare room behind each of its lists, in which something stands that would change each answer.
func roomy(c api.Config) api.Config {
	c = copied(c)
	c.Gaps = append(c.Gaps, 2, 0)[:len(c.Gaps)]
	c.Mutexes = append(c.Mutexes, api.Mutex{Rank: 100, Limit: 1000}, api.Mutex{})[:len(c.Mutexes)]
	c.Best = append(c.Best, api.Effort{Level: 16})[:len(c.Best)]
	c.Tasks = append(c.Tasks, fix(63, 0), soon(0), api.Task{})[:len(c.Tasks)]
	for i, x := range c.Tasks {
		c.Tasks[i].Uses = append(x.Uses, 1, 0, -1)[:len(x.Uses)]
		c.Tasks[i].Prog = append(x.Prog, api.Op{Kind: 99})[:len(x.Prog)]
	}
	for i, x := range c.Best {
		c.Best[i].Prog = append(x.Prog, api.Op{Kind: 99})[:len(x.Prog)]
	}
	return c
}

// opened is c with its spare room as part of its lists.
func opened(c api.Config) api.Config {
	c.Gaps, c.Mutexes = c.Gaps[:cap(c.Gaps)], c.Mutexes[:cap(c.Mutexes)]
	c.Best, c.Tasks = slices.Clone(c.Best[:cap(c.Best)]), slices.Clone(c.Tasks[:cap(c.Tasks)])
	for i, x := range c.Tasks {
		c.Tasks[i].Uses, c.Tasks[i].Prog = x.Uses[:cap(x.Uses)], x.Prog[:cap(x.Prog)]
	}
	for i, x := range c.Best {
		c.Best[i].Prog = x.Prog[:cap(x.Prog)]
	}
	return c
}

// R4: what is handed in stays as it is, its spare room too, and that counts for nothing.
func TestWhatComesInStays(t *testing.T) {
	r := rand.New(rand.NewSource(187))
	k := new(kinds)
	for range 3000 {
		c := roomy(some(r))
		before := copied(opened(c))
		k.hold(t, c)
		if !reflect.DeepEqual(opened(c), before) {
			t.Fatalf("%+v is %+v now", before, opened(c))
		}
	}
	k.told(t, 50, k.refused, k.none, k.fixed, k.early, k.dog, k.admitted)
}

// R4: nothing is kept: what is changed behind a call tells in the next one what it is then.
func TestNothingIsKept(t *testing.T) {
	c := example()
	new(kinds).hold(t, c)
	c.Tasks[1].Uses[0], c.Mutexes[0].Limit, c.Gaps = 0, 9, []int{50}
	if got := asked(c, 1); !got.same(reply{20, []rta.Part{{Period: 50, Cost: 2}, {Period: 100, Cost: 5}}, 100, true}) {
		t.Errorf("%+v", got)
	}
	c.Gaps[0], c.Tasks[0].Budget = 60, 4
	if got := asked(c, 1); !got.same(reply{20, []rta.Part{{Period: 60, Cost: 2}, {Period: 100, Cost: 4}}, 100, true}) {
		t.Errorf("%+v", got)
	}
	if ok, responses := Admit(c); !ok || !slices.Equal(responses, []int{17, 100}) {
		t.Errorf("Admit: %t, %v", ok, responses)
	}
	c.Tasks[1].Uses[0] = 1
	if got := asked(c, 1); May(c) || !got.same(reply{}) {
		t.Errorf("%+v", got)
	}
}

// R4: what is answered shares no memory with what comes in, nor with another answer.
func TestAnswersAreNew(t *testing.T) {
	r := rand.New(rand.NewSource(188))
	written := 0
	for range 2000 {
		c := roomy(some(r))
		before := copied(opened(c))
		for i := range c.Tasks {
			was, parts, other := slices.Clone(Parts(c, i)), Parts(c, i), Parts(c, i)
			for j := range parts[:cap(parts)] {
				parts[:cap(parts)][j] = rta.Part{Period: -7, Cost: -7}
				written++
			}
			if !slices.Equal(other, was) || !slices.Equal(Parts(c, i), was) {
				t.Fatalf("Parts of %+v, %d: %v and %v, not %v", c, i, other, Parts(c, i), was)
			}
		}
		ok, responses := Admit(c)
		_, other := Admit(c)
		was := slices.Clone(responses)
		for j := range responses[:cap(responses)] {
			responses[:cap(responses)][j] = -7
			written++
		}
		if gotOK, got := Admit(c); gotOK != ok || !slices.Equal(got, was) || !slices.Equal(other, was) {
			t.Fatalf("Admit of %+v: %v and %v, not %v", c, got, other, was)
		}
		if !reflect.DeepEqual(opened(c), before) {
			t.Fatalf("%+v is %+v now", before, opened(c))
		}
	}
	if written < 5000 {
		t.Errorf("%d written over: the configurations tell too little", written)
	}
}

// A list is nil or empty: the same.
func TestNoLists(t *testing.T) {
	for _, c := range []api.Config{{Frames: 8, Dog: 1}, plain(fix(5)), plain(soon(), fix(3)), {}} {
		c.Mutexes = nil
		empty := copied(c)
		empty.Gaps, empty.Mutexes, empty.Best = []int{}, []api.Mutex{}, []api.Effort{}
		empty.Tasks = append([]api.Task{}, c.Tasks...)
		for i := range empty.Tasks {
			empty.Tasks[i].Uses, empty.Tasks[i].Prog = []int{}, []api.Op{}
		}
		new(kinds).hold(t, c)
		new(kinds).hold(t, empty)
		ok, responses := Admit(c)
		if gotOK, got := Admit(empty); gotOK != ok || !slices.Equal(got, responses) {
			t.Errorf("Admit of %+v: %t, %v", empty, gotOK, got)
		}
	}
}

// R5: the calls may be called from several goroutines at one time, of the same configurations too.
func TestFromSeveralGoroutines(t *testing.T) {
	r := rand.New(rand.NewSource(189))
	configs := make([]api.Config, 200)
	for i := range configs {
		configs[i] = some(r)
	}
	var all sync.WaitGroup
	for range 8 {
		all.Go(func() {
			for _, c := range configs {
				if got := May(c); got != mayBe(c) {
					t.Errorf("May of %+v: %t", c, got)
				}
				for i := range c.Tasks {
					var want reply
					if mayBe(c) {
						want = book(c, i)
					}
					if got := asked(c, i); !got.same(want) {
						t.Errorf("of %+v task %d: %+v, not %+v", c, i, got, want)
					}
				}
				Admit(c)
			}
		})
	}
	all.Wait()
}

// Each call ends soon: of great lists, which may not be, and of as many tasks and lines as may be, each span of which is tried.
func TestSizes(t *testing.T) {
	const many = 1 << 20
	for i, turn := range []func(c *api.Config){
		func(c *api.Config) { c.Tasks = slices.Repeat(c.Tasks[:1], many) }, func(c *api.Config) { c.Best = make([]api.Effort, many) },
		func(c *api.Config) { c.Mutexes = slices.Repeat(c.Mutexes, many) }, func(c *api.Config) { c.Gaps = slices.Repeat([]int{9}, many) },
		func(c *api.Config) { c.Tasks[1].Uses = make([]int, many) }, func(c *api.Config) { c.Tasks[0].Prog = make([]api.Op, many) },
		func(c *api.Config) { c.Best = []api.Effort{{Prog: make([]api.Op, many)}} },
	} {
		c := with(example(), turn)
		for task := range 500 {
			if got := asked(c, task); May(c) || !got.same(reply{}) {
				t.Fatalf("the %d-th great one: %+v", i, got)
			}
		}
	}
	c := plain()
	c.Gaps, c.Dog = []int{1000, 1000, 1000, 1000}, most
	for range 4 {
		c.Tasks = append(c.Tasks, timed(fix(5), 1000, 900, 10), timed(soon(), 4096, 4091, 960))
	}
	for range 20 {
		new(kinds).hold(t, c)
	}
	if ok, responses := Admit(c); !ok || !slices.Equal(responses, []int{59, 4091, 59, 4091, 59, 4091, 59, 4091}) {
		t.Errorf("Admit: %t, %v", ok, responses)
	}
}
