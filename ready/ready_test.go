package ready

import (
	"math"
	"slices"
	"testing"

	"coxswain/api"
)

// entry is a number with its priority.
type entry struct {
	id int
	p  api.Prio
}

// strength tells, of one class, who is greater: the greater strength is.
func (e entry) strength() int {
	if e.p.Class == api.Early {
		return -e.p.Due
	}
	return e.p.Level
}

// ahead answers whether e stands ahead of f.
func (e entry) ahead(f entry) bool {
	if e.p.Class != f.p.Class {
		return e.p.Class > f.p.Class
	}
	if e.strength() != f.strength() {
		return e.strength() > f.strength()
	}
	return e.id < f.id
}

// rows keeps numbers as the promise tells them, in one list: always in the order in which they may run.
type rows struct{ list []entry }

func (r *rows) place(id int) int {
	for i, e := range r.list {
		if e.id == id {
			return i
		}
	}
	return -1
}

// mayBe tells by the document's bounds, written out, whether p may be.
func mayBe(p api.Prio) bool {
	switch p.Class {
	case api.Best:
		return p.Level >= 0 && p.Level <= 15 && p.Due == 0
	case api.Early:
		return p.Level == 0 && p.Due >= 0 && p.Due <= 1<<40
	case api.Fixed:
		return p.Level >= 0 && p.Level <= 63 && p.Due == 0
	}
	return false
}

func (r *rows) add(id int, p api.Prio) api.Errno {
	if id < 0 || !mayBe(p) {
		return api.ErrArg
	}
	if r.place(id) >= 0 {
		return api.ErrBusy
	}
	e := entry{id, p}
	at := 0
	for at < len(r.list) && r.list[at].ahead(e) {
		at++
	}
	r.list = slices.Insert(r.list, at, e)
	return api.OK
}

func (r *rows) drop(id int) bool {
	at := r.place(id)
	if at < 0 {
		return false
	}
	r.list = slices.Delete(r.list, at, at+1)
	return true
}

func (r *rows) change(id int, p api.Prio) api.Errno {
	if !mayBe(p) {
		return api.ErrArg
	}
	if !r.drop(id) {
		return api.ErrNone
	}
	return r.add(id, p)
}

func (r *rows) all() []int {
	list := []int{}
	for _, e := range r.list {
		list = append(list, e.id)
	}
	return list
}

// both is a queue and its rows; each call is made of both.
type both struct {
	t *testing.T
	q *Queue
	r *rows
}

// filled answers a queue of these, added in the order in which they are listed.
func filled(t *testing.T, list ...entry) both {
	t.Helper()
	b := both{t, New(), &rows{}}
	for _, e := range list {
		b.add(e.id, e.p)
	}
	return b
}

func (b both) add(id int, p api.Prio) {
	b.t.Helper()
	if got, want := b.q.Add(id, p), b.r.add(id, p); got != want {
		b.t.Fatalf("Add(%d, %v): %d, not %d", id, p, got, want)
	}
}

func (b both) drop(id int) {
	b.t.Helper()
	if got, want := b.q.Drop(id), b.r.drop(id); got != want {
		b.t.Fatalf("Drop(%d): %t, not %t", id, got, want)
	}
}

func (b both) change(id int, p api.Prio) {
	b.t.Helper()
	if got, want := b.q.Change(id, p), b.r.change(id, p); got != want {
		b.t.Fatalf("Change(%d, %v): %d, not %d", id, p, got, want)
	}
}

// checkFirst holds what First and Len answer against the rows.
func (b both) checkFirst(what string) {
	b.t.Helper()
	got, ok := b.q.First()
	want := 0
	if len(b.r.list) > 0 {
		want = b.r.list[0].id
	}
	if got != want || ok != (len(b.r.list) > 0) {
		b.t.Fatalf("%s: First %d %t, not %d of %v", what, got, ok, want, b.r.list)
	}
	if got := b.q.Len(); got != len(b.r.list) {
		b.t.Fatalf("%s: Len %d, not %d", what, got, len(b.r.list))
	}
}

// check asks the queue all that it tells.
func (b both) check(what string) {
	b.t.Helper()
	b.checkFirst(what)
	if got := b.q.All(); !slices.Equal(got, b.r.all()) {
		b.t.Fatalf("%s: All %v, not %v", what, got, b.r.list)
	}
	for _, e := range b.r.list {
		if !b.q.Has(e.id) {
			b.t.Fatalf("%s: %d is not there", what, e.id)
		}
	}
	for id := -1; id < 9; id++ {
		if got := b.q.Has(id); got != (b.r.place(id) >= 0) {
			b.t.Fatalf("%s: Has(%d): %t", what, id, got)
		}
	}
	for _, id := range strangers() {
		if b.q.Has(id) {
			b.t.Fatalf("%s: %d is there", what, id)
		}
	}
}

// checkEmptied drops whoever is first till nobody is there, and checks after each.
func (b both) checkEmptied(what string) {
	b.t.Helper()
	for len(b.r.list) > 0 {
		b.check(what)
		b.drop(b.r.list[0].id)
	}
	b.check(what)
}

// strangers are numbers that no queue of these tests holds, below 0 and above.
func strangers() []int {
	return []int{math.MinInt, math.MinInt + 1, -1 << 32, -64, -2, -1, 1 << 20, 1 << 32, 1<<32 + 1, math.MaxInt - 7}
}

func best(level int) api.Prio  { return api.Prio{Class: api.Best, Level: level} }
func early(due int) api.Prio   { return api.Prio{Class: api.Early, Due: due} }
func fixed(level int) api.Prio { return api.Prio{Class: api.Fixed, Level: level} }

// allowed are priorities of each class, at each bound and between, no two the same.
func allowed() []api.Prio {
	return []api.Prio{
		best(0), best(1), best(7), best(14), best(15),
		early(0), early(1), early(63), early(64), early(1 << 32), early(api.Most - 1), early(api.Most),
		fixed(0), fixed(1), fixed(15), fixed(16), fixed(31), fixed(32), fixed(62), fixed(63),
	}
}

// refused are priorities that may not be: one past each bound, fields that another class has, and numbers that would do if their upper bits were lost.
func refused() []api.Prio {
	list := []api.Prio{
		best(-1), best(16), best(63), best(64), best(1 << 32), best(math.MinInt), best(math.MaxInt),
		fixed(-1), fixed(64), fixed(1 << 32), fixed(1<<32 + 5), fixed(math.MinInt), fixed(math.MaxInt),
		early(-1), early(api.Most + 1), early(math.MinInt), early(math.MaxInt),
	}
	for _, due := range []int{-1, 1, 1 << 32, api.Most, math.MinInt, math.MaxInt} {
		list = append(list, api.Prio{Class: api.Best, Level: 3, Due: due}, api.Prio{Class: api.Fixed, Level: 3, Due: due})
	}
	for _, level := range []int{-1, 1, 63, 1 << 32, math.MinInt, math.MaxInt} {
		list = append(list, api.Prio{Class: api.Early, Level: level, Due: 3})
	}
	for _, class := range []int{-1, 3, 4, 1 << 32, 1<<32 + 2, math.MinInt, math.MaxInt} {
		list = append(list, api.Prio{Class: class}, api.Prio{Class: class, Level: 3}, api.Prio{Class: class, Due: 3})
	}
	return list
}

// P8.1: the document's example.
func TestExample(t *testing.T) {
	q := New()
	if q.Add(4, best(3)) != api.OK || q.Add(5, early(90)) != api.OK || q.Add(6, fixed(0)) != api.OK {
		t.Fatal("Add: not OK")
	}
	if got, ok := q.First(); got != 6 || !ok {
		t.Errorf("First: %d %t", got, ok)
	}
	if got := q.All(); !slices.Equal(got, []int{6, 5, 4}) {
		t.Errorf("All: %v", got)
	}
}

// P8.1: New answers none; each answer is a queue of its own.
func TestNone(t *testing.T) {
	b := filled(t)
	b.check("none")
	for _, id := range append(strangers(), 0, 1, 63, 64) {
		b.drop(id)
		b.change(id, best(0))
		b.change(id, early(0))
		b.change(id, fixed(0))
		b.check("none")
	}
	b.add(3, fixed(3))
	filled(t).check("another one")
	b.check("the first one")
}

// P8.1: of two queues each keeps its own.
func TestTwoQueues(t *testing.T) {
	a, b := filled(t), filled(t)
	for i, p := range allowed() {
		a.add(i, p)
		b.add(i, allowed()[len(allowed())-1-i])
		a.check("one queue")
		b.check("the other one")
	}
	for i, p := range allowed() {
		a.change(i, best(3))
		b.drop(i)
		b.add(i+1, p)
		b.drop(i + 1)
		a.check("one queue")
		b.check("the other one")
	}
}

// P8.1: of each priority that may be, and with each number from 0 on, Add is OK.
func TestAdd(t *testing.T) {
	for _, id := range []int{0, 1, 63, 64, 1 << 31, 1 << 32, math.MaxInt - 1, math.MaxInt} {
		for _, p := range allowed() {
			q := New()
			if e := q.Add(id, p); e != api.OK {
				t.Errorf("Add(%d, %v): %d", id, p, e)
			}
			got, ok := q.First()
			if all := q.All(); got != id || !ok || !slices.Equal(all, []int{id}) || !q.Has(id) || q.Len() != 1 {
				t.Errorf("Add(%d, %v): First %d %t, All %v", id, p, got, ok, all)
			}
			if q.Has(id-1) || id < math.MaxInt && q.Has(id+1) || q.Has(int(int32(id))) != (id == int(int32(id))) {
				t.Errorf("Add(%d, %v): another one is there", id, p)
			}
		}
	}
}

// P8.1, R6: Add's errors, in their order; each refused call changes nothing (R5).
func TestAddErrors(t *testing.T) {
	b := filled(t, entry{2, best(3)}, entry{5, early(3)}, entry{8, fixed(3)}, entry{6, early(api.Most)})
	refuse := func(id int, p api.Prio, want api.Errno) {
		if got := b.q.Add(id, p); got != want {
			t.Fatalf("Add(%d, %v): %d, not %d", id, p, got, want)
		}
		b.check("after a refused Add")
	}
	for _, p := range refused() {
		for _, id := range []int{math.MinInt, -1, 0, 2, 5, 6, 8, 9, math.MaxInt} {
			refuse(id, p, api.ErrArg)
		}
	}
	for _, p := range allowed() {
		for _, id := range []int{math.MinInt, math.MinInt + 2, -1 << 32, -2, -1} {
			refuse(id, p, api.ErrArg)
		}
		for _, id := range []int{2, 5, 6, 8} {
			refuse(id, p, api.ErrBusy)
		}
	}
	b.checkEmptied("after refused Adds")
}

// P8.1: what is dropped may be added again, with the same priority or another one.
func TestAddAgain(t *testing.T) {
	for _, from := range allowed() {
		for _, to := range allowed() {
			b := filled(t, entry{3, early(64)}, entry{4, from}, entry{5, best(7)}, entry{6, fixed(16)})
			b.drop(4)
			b.check("dropped")
			b.add(4, to)
			b.check("added again")
			b.add(4, from)
			b.checkEmptied("added a third time")
		}
	}
}

// crew is three of each of six priorities: two of each class, and of each the least, one between and the greatest.
func crew() []entry {
	var list []entry
	for i, p := range []api.Prio{best(0), fixed(0), early(90), best(15), early(0), fixed(63)} {
		for j := range 3 {
			list = append(list, entry{i + 6*j, p})
		}
	}
	return list
}

// P8.1: Drop, of whoever is there: the first one, the last one, any; and of who is not there.
func TestDrop(t *testing.T) {
	for _, gone := range crew() {
		b := filled(t, crew()...)
		b.drop(gone.id)
		b.check("dropped")
		b.drop(gone.id)
		b.checkEmptied("dropped twice")
	}
	b := filled(t, crew()...)
	for _, id := range append(strangers(), 18, 19, 63, 64, 127) {
		b.drop(id)
		b.check("dropped a stranger")
	}
}

// P8.1: two dropped, in either order, then the others; and all from the last one on.
func TestDropTwo(t *testing.T) {
	for _, one := range crew() {
		for _, other := range crew() {
			b := filled(t, crew()...)
			b.drop(one.id)
			b.drop(other.id)
			b.check("two dropped")
		}
	}
	b := filled(t, crew()...)
	for len(b.r.list) > 0 {
		b.drop(b.r.list[len(b.r.list)-1].id)
		b.check("the last one dropped")
	}
}

// P8.1: each change from any priority to any, the same one too, with others ahead, behind and beside.
func TestChange(t *testing.T) {
	for _, from := range allowed() {
		for _, to := range allowed() {
			alone := filled(t, entry{4, from})
			alone.change(4, to)
			alone.checkEmptied("changed alone")
			b := filled(t, entry{4, from}, entry{3, from}, entry{5, from}, entry{2, to}, entry{6, to}, entry{1, early(64)}, entry{7, best(7)}, entry{8, fixed(31)})
			b.change(4, to)
			b.check("changed")
			b.change(4, to)
			b.check("changed to the same")
			b.change(3, to)
			b.change(4, from)
			b.check("changed back")
			b.change(5, to)
			b.checkEmptied("all changed")
		}
	}
}

// P8.1: Change moves one number alone: the others of its priority stay where they are.
func TestChangeOfEach(t *testing.T) {
	for _, moved := range crew() {
		for _, to := range allowed() {
			b := filled(t, crew()...)
			b.change(moved.id, to)
			b.check("one changed")
		}
	}
}

// P8.1, R6: Change's errors, in their order; each refused call changes nothing (R5).
func TestChangeErrors(t *testing.T) {
	b := filled(t, entry{2, best(3)}, entry{5, early(3)}, entry{8, fixed(3)}, entry{6, early(api.Most)}, entry{1, fixed(9)})
	b.drop(1)
	for _, p := range refused() {
		for _, id := range []int{math.MinInt, -1, 0, 1, 2, 5, 6, 8, 9, math.MaxInt} {
			if got := b.q.Change(id, p); got != api.ErrArg {
				t.Fatalf("Change(%d, %v): %d, not ErrArg", id, p, got)
			}
			b.check("after a refused Change")
		}
	}
	for _, p := range allowed() {
		for _, id := range append(strangers(), 0, 1, 3, 4, 7, 9, math.MaxInt) {
			if got := b.q.Change(id, p); got != api.ErrNone {
				t.Fatalf("Change(%d, %v): %d, not ErrNone", id, p, got)
			}
			b.check("after a refused Change")
		}
	}
	b.checkEmptied("after refused Changes")
}

// P8.1: what is changed is dropped from where it stands now, not from where it stood.
func TestDropChanged(t *testing.T) {
	for _, from := range allowed() {
		for _, to := range allowed() {
			b := filled(t, entry{4, from}, entry{3, from}, entry{5, to})
			b.change(4, to)
			b.drop(4)
			b.check("changed and dropped")
			b.change(4, from)
			b.add(4, from)
			b.check("added again")
			b.change(3, to)
			b.drop(5)
			b.checkEmptied("changed and dropped")
		}
	}
}

// orders calls do with each order of the numbers from 0 to n - 1.
func orders(n int, do func(order []int)) {
	order := make([]int, 0, n)
	var next func()
	next = func() {
		if len(order) == n {
			do(order)
			return
		}
		for i := range n {
			if !slices.Contains(order, i) {
				order = append(order, i)
				next()
				order = order[:len(order)-1]
			}
		}
	}
	next()
}

// P8.1: of one priority the least number is first, in whatever order they come, or come in by a change.
func TestOnePriority(t *testing.T) {
	for _, p := range []api.Prio{best(0), best(15), early(0), early(api.Most), fixed(0), fixed(63)} {
		orders(5, func(order []int) {
			added, changed := filled(t), filled(t)
			for i, id := range order {
				added.add(id, p)
				added.check("added")
				changed.add(id, allowed()[i*4])
			}
			for _, id := range order {
				changed.change(id, p)
				changed.check("changed")
			}
			for _, id := range order {
				added.drop(id)
				added.check("dropped")
			}
			changed.checkEmptied("changed")
		})
	}
}

// P8.1: of different priorities the greatest one is first, in whatever order they come.
func TestSeveralPriorities(t *testing.T) {
	for _, ladder := range [][]api.Prio{
		{best(0), best(1), best(14), best(15), best(7)},
		{early(0), early(1), early(90), early(api.Most - 1), early(api.Most)},
		{fixed(0), fixed(1), fixed(32), fixed(62), fixed(63)},
		{best(15), early(api.Most), early(0), fixed(0), fixed(15)},
		{fixed(63), early(5), early(5), best(3), best(3)},
	} {
		orders(5, func(order []int) {
			b := filled(t)
			for id, i := range order {
				b.add(id, ladder[i])
				b.check("added")
			}
			b.checkEmptied("dropped")
		})
	}
}

// P8.1: Early ones whose dues are equal, falling and rising, with those of other classes beside them.
func TestDues(t *testing.T) {
	rules := []func(i int) int{
		func(i int) int { return 40 },
		func(i int) int { return 100 - i },
		func(i int) int { return i },
		func(i int) int { return api.Most - i },
		func(i int) int { return i / 3 },
		func(i int) int { return 10 - i/3 },
		func(i int) int { return i % 3 << 38 },
		func(i int) int { return i * 7 % 16 },
	}
	for _, rule := range rules {
		b := filled(t, entry{50, best(15)}, entry{51, fixed(0)})
		for i := range 30 {
			b.add(i, early(rule(i)))
			b.check("added")
		}
		for i := range 30 {
			b.change(i, early(rule(29-i)))
			b.check("changed")
		}
		b.checkEmptied("dropped")
	}
}

// P8.1: each level of Best and of Fixed has somebody, rising, falling and mixed; then the ones ahead go one by one.
func TestLevels(t *testing.T) {
	for _, step := range []int{1, 63, 27} {
		b := filled(t, entry{200, early(0)}, entry{201, early(api.Most)})
		for i := range 64 {
			level := i * step % 64
			b.add(level*2, fixed(level))
			b.add(300-i, fixed(level))
			b.checkFirst("levels of Fixed")
			if level < 16 {
				b.add(128+level, best(level))
			}
		}
		b.checkEmptied("levels")
	}
}

// P8.1: each pair of levels of Best, of Fixed, and of one each.
func TestPairsOfLevels(t *testing.T) {
	for i := range 64 {
		for j := range 64 {
			b := filled(t, entry{1, fixed(i)}, entry{0, fixed(j)})
			b.checkEmptied("two of Fixed")
			if i >= 16 {
				continue
			}
			b = filled(t, entry{0, best(i)}, entry{1, fixed(j)})
			b.checkEmptied("one each")
			if j < 16 {
				b = filled(t, entry{1, best(i)}, entry{0, best(j)})
				b.checkEmptied("two of Best")
			}
		}
	}
}

// P8.1: to ask changes nothing: each question is answered twice alike, one behind the other in any order.
func TestAskedTwice(t *testing.T) {
	b := filled(t, crew()...)
	for range 3 {
		b.check("asked again")
		b.checkFirst("asked again")
	}
	b.checkEmptied("asked")
}

// move is a call of a play.
type move struct {
	kind, id int
	p        api.Prio
}

const (
	add = iota
	drop
	change
)

func (b both) play(m move) {
	b.t.Helper()
	switch m.kind {
	case add:
		b.add(m.id, m.p)
	case drop:
		b.drop(m.id)
	case change:
		b.change(m.id, m.p)
	}
}

// moves are all calls with numbers below ids and these priorities.
func moves(ids int, prios []api.Prio) []move {
	var list []move
	for id := range ids {
		list = append(list, move{drop, id, api.Prio{}})
		for _, p := range prios {
			list = append(list, move{add, id, p}, move{change, id, p})
		}
	}
	return list
}

// allPlays makes each play of so many of these calls, and checks what there is at its end.
func allPlays(t *testing.T, length int, of []move) {
	line := make([]move, length)
	var next func(at int)
	next = func(at int) {
		if at == length {
			b := filled(t)
			for _, m := range line {
				b.play(m)
			}
			b.check("a play")
			return
		}
		for _, m := range of {
			line[at] = m
			next(at + 1)
		}
	}
	next(0)
}

// P8.1: all short plays.
func TestAllPlays(t *testing.T) {
	allPlays(t, 3, moves(3, []api.Prio{best(2), early(5), early(4), fixed(0), fixed(63)}))
	allPlays(t, 4, moves(2, []api.Prio{best(0), early(0), fixed(3), fixed(100)}))
	allPlays(t, 5, moves(2, []api.Prio{best(15), fixed(15)}))
}

// dice is a row of numbers by a simple rule, the same ones each time.
type dice uint64

func (d *dice) below(n int) int {
	*d = *d*6364136223846793005 + 1442695040888963407
	return int(uint64(*d)>>33) % n
}

// prio answers a priority, now and then one that may not be, with few levels or many.
func (d *dice) prio(spread int) api.Prio {
	switch d.below(12) {
	case 0:
		return refused()[d.below(len(refused()))]
	case 1, 2, 3:
		return best(d.below(min(spread, 16)))
	case 4, 5, 6, 7:
		return early(d.below(spread))
	}
	return fixed(d.below(min(spread, 64)))
}

// P8.1: long plays, with few numbers and many, with few priorities and many.
func TestLongPlays(t *testing.T) {
	for _, size := range []struct{ ids, spread int }{{1, 2}, {3, 2}, {9, 1}, {9, 3}, {9, 64}, {40, 4}, {40, 64}, {150, 16}, {150, 1000}} {
		b, d := filled(t), dice(size.ids*1000+size.spread)
		for turn := range 6000 {
			id := d.below(size.ids+1) - d.below(30)/29
			b.play(move{[]int{add, add, change, change, drop}[d.below(5)], id, d.prio(size.spread)})
			b.checkFirst("a long play")
			if turn%16 == 0 {
				b.check("a long play")
			}
		}
		b.checkEmptied("a long play")
	}
}

// P8.1: many numbers; each call ends soon, however many there are, in whatever order they come.
func TestMany(t *testing.T) {
	const many = 1 << 13
	rules := []func(i int) api.Prio{
		func(i int) api.Prio { return fixed(63) },
		func(i int) api.Prio { return best(0) },
		func(i int) api.Prio { return early(7) },
		func(i int) api.Prio { return early(many - i) },
		func(i int) api.Prio { return early(i) },
		func(i int) api.Prio { return fixed(i % 64) },
		func(i int) api.Prio { return allowed()[i%len(allowed())] },
	}
	for _, rule := range rules {
		for _, step := range []int{1, many - 1, 4051} {
			playMany(t, many, step, rule)
		}
	}
	playMany(t, 1<<17, 1<<17-1, rules[0])
	playMany(t, 1<<17, 40503, rules[6])
}

// playMany adds so many numbers, changes every second one, and drops half of them from the first one on.
func playMany(t *testing.T, many int, step int, rule func(i int) api.Prio) {
	t.Helper()
	q, entries := New(), make([]entry, many)
	for i := range many {
		id := i * step % many
		entries[id] = entry{id, rule(i)}
		if e := q.Add(id, rule(i)); e != api.OK {
			t.Fatalf("Add(%d, %v): %d", id, rule(i), e)
		}
	}
	for id := 0; id < many; id += 2 {
		entries[id].p = rule(id / 3)
		if e := q.Change(id, entries[id].p); e != api.OK {
			t.Fatalf("Change(%d, %v): %d", id, entries[id].p, e)
		}
	}
	checkMany(t, q, entries)
}

// checkMany holds q against these entries, sorted, and drops half of them from the first one on.
func checkMany(t *testing.T, q *Queue, entries []entry) {
	t.Helper()
	slices.SortFunc(entries, func(e entry, f entry) int {
		if e.ahead(f) {
			return -1
		}
		return 1
	})
	for n, id := range q.All() {
		if id != entries[n].id {
			t.Fatalf("All: at %d %d, not %v", n, id, entries[n])
		}
	}
	for n := range len(entries) / 2 {
		if got, ok := q.First(); got != entries[n].id || !ok || q.Len() != len(entries)-n {
			t.Fatalf("First: %d %t of %d, not %v", got, ok, q.Len(), entries[n])
		}
		if !q.Drop(entries[n].id) || q.Drop(entries[n].id) {
			t.Fatalf("Drop of %v", entries[n])
		}
	}
}

// R3: calls on no queue.
func TestNil(t *testing.T) {
	var q *Queue
	for _, id := range append(strangers(), 0, 1, math.MaxInt) {
		for _, p := range append(allowed(), refused()...) {
			if e := q.Add(id, p); e != api.ErrNil {
				t.Errorf("Add(%d, %v): %d", id, p, e)
			}
			if e := q.Change(id, p); e != api.ErrNil {
				t.Errorf("Change(%d, %v): %d", id, p, e)
			}
		}
		if q.Drop(id) || q.Has(id) {
			t.Errorf("%d is there", id)
		}
	}
	if id, ok := q.First(); id != 0 || ok {
		t.Errorf("First: %d %t", id, ok)
	}
	if q.Len() != 0 || len(q.All()) != 0 {
		t.Errorf("Len %d, All %v", q.Len(), q.All())
	}
}

// overwrite writes over a list and all its spare room.
func overwrite(list []int) {
	list = list[:cap(list)]
	for i := range list {
		list[i] = -77
	}
}

// R4: what All answers may be written over, its spare room too, and is not changed by later calls.
func TestAllIsNew(t *testing.T) {
	b := filled(t)
	for _, e := range crew() {
		b.add(e.id, e.p)
		overwrite(b.q.All())
		b.check("written over")
		overwrite(append(b.q.All(), 1, 2, 3))
		b.check("written over, with more behind")
	}
	first, second := b.q.All(), b.q.All()
	want := slices.Clone(first)
	overwrite(second)
	if !slices.Equal(first, want) {
		t.Errorf("two answers share memory: %v", first)
	}
	for _, e := range crew() {
		b.change(e.id, early(e.id))
		b.drop(e.id / 2)
		b.add(100+e.id, fixed(e.id))
		b.q.All()
	}
	if !slices.Equal(first, want) {
		t.Errorf("All's answer was changed by later calls: %v", first)
	}
	b.checkEmptied("written over")
}

// R4: the same of a queue in which there is one class alone, one number alone, none.
func TestAllIsNewOfFew(t *testing.T) {
	for _, p := range allowed() {
		b := filled(t, entry{3, p})
		kept := b.q.All()
		overwrite(b.q.All())
		b.check("one written over")
		b.add(2, p)
		overwrite(b.q.All())
		b.check("two written over")
		b.drop(3)
		b.drop(2)
		overwrite(b.q.All())
		b.check("none written over")
		if !slices.Equal(kept, []int{3}) {
			t.Errorf("%v: All's answer was changed: %v", p, kept)
		}
	}
}
