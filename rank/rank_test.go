package rank

import (
	"iter"
	"math"
	"slices"
	"sync"
	"testing"

	"coxswain/api"
)

// The chapter's way: what is looked for comes in as a function value, and method values are handed on as it.
var (
	_ func([]int, func(int) bool) iter.Seq[int]                   = those[int]
	_ func([]api.Mutex, func(api.Mutex) bool) iter.Seq[api.Mutex] = those[api.Mutex]
	_ func(int) bool                                              = (&Table{}).has
	_ func(api.Mutex) bool                                        = floor(1).reached
)

// The bounds, from the document.
const (
	mostMutexes = 6
	rankTop     = 100
	limitTop    = 1000
)

// rows keeps mutexes by their numbers as the promise tells them: a number that is no mutex's is not there.
type rows map[int]api.Mutex

func rowsOf(list []api.Mutex) rows {
	r := rows{}
	for i, m := range list {
		r[i] = m
	}
	return r
}

// ranks are those of the numbers that are mutexes.
func (r rows) ranks(numbers []int) []int {
	list := []int{}
	for _, x := range numbers {
		if m, ok := r[x]; ok {
			list = append(list, m.Rank)
		}
	}
	return list
}

func (r rows) may(held []int, m int) api.Errno {
	mutex, ok := r[m]
	if !ok {
		return api.EINVAL
	}
	if ranks := r.ranks(held); len(ranks) > 0 && slices.Max(ranks) >= mutex.Rank {
		return api.ERANK
	}
	return api.OK
}

func (r rows) least(uses []int) (int, bool) {
	ranks := r.ranks(uses)
	if len(ranks) == 0 {
		return 0, false
	}
	return slices.Min(ranks), true
}

func (r rows) sum(rank int) int {
	sum := 0
	for _, m := range r {
		if m.Rank >= rank {
			sum += m.Limit
		}
	}
	return sum
}

// both is a table and its rows; each question is asked of both.
type both struct {
	t *testing.T
	x *Table
	r rows
}

func made(t *testing.T, list []api.Mutex) both {
	t.Helper()
	x, e := New(list)
	if x == nil || e != api.OK {
		t.Fatalf("New(%v): %v %d", list, x, e)
	}
	return both{t, x, rowsOf(list)}
}

func (b both) may(held []int, m int) {
	b.t.Helper()
	if got, want := b.x.May(held, m), b.r.may(held, m); got != want {
		b.t.Fatalf("of %v: May(%v, %d): %d, not %d", b.r, held, m, got, want)
	}
}

func (b both) least(uses []int) {
	b.t.Helper()
	got, ok := b.x.Least(uses)
	if want, is := b.r.least(uses); got != want || ok != is {
		b.t.Fatalf("of %v: Least(%v): %d %t, not %d %t", b.r, uses, got, ok, want, is)
	}
}

func (b both) sum(rank int) {
	b.t.Helper()
	if got, want := b.x.Sum(rank), b.r.sum(rank); got != want {
		b.t.Fatalf("of %v: Sum(%d): %d, not %d", b.r, rank, got, want)
	}
}

// one asks what is told of one number.
func (b both) one(m int) {
	b.t.Helper()
	// Of no such mutex the rows' answer is the zero value too.
	if want := b.r[m]; b.x.Rank(m) != want.Rank || b.x.Limit(m) != want.Limit {
		b.t.Fatalf("of %v: Rank(%d) %d, Limit(%d) %d, not %v", b.r, m, b.x.Rank(m), m, b.x.Limit(m), want)
	}
}

// check asks all that tells one table from another, and more.
func (b both) check() {
	b.t.Helper()
	if got := b.x.Len(); got != len(b.r) {
		b.t.Fatalf("of %v: Len %d", b.r, got)
	}
	for m := -2; m < mostMutexes+3; m++ {
		b.one(m)
		b.may(nil, m)
		b.least([]int{m})
		for other := -2; other < mostMutexes+3; other++ {
			b.may([]int{other}, m)
			b.least([]int{m, other})
		}
	}
	for _, rank := range ranksAbout(b.r) {
		b.sum(rank)
	}
}

// ranksAbout are the ranks of the rows, what lies beside them, all bounds, and strange numbers.
func ranksAbout(r rows) []int {
	list := append(strangers(), 0, 1, 2, 50, 99, 100, 101)
	for _, m := range r {
		list = append(list, m.Rank-1, m.Rank, m.Rank+1)
	}
	return list
}

// strangers are numbers that are no mutex's, no rank and no limit: those beside the bounds, the least and the greatest, and those that would be one if their higher bits or their sign were lost.
func strangers() []int {
	return []int{
		math.MinInt, math.MinInt + 1, math.MinInt + 3, math.MinInt32, -1 << 32, -1<<32 + 2, -1 << 16, -1<<16 + 5, -1000, -256, -255, -101, -100, -8, -7, -6, -5, -2, -1,
		1<<12 + 1, 1 << 16, 1<<16 + 1, 1 << 32, 1<<32 + 1, 1<<32 + 5, 1 << 40, 1 << 62, math.MaxInt32, math.MaxInt - 5, math.MaxInt - 1, math.MaxInt,
	}
}

// noMutexes are numbers that are no mutex's of a table of n.
func noMutexes(n int) []int {
	list := append(strangers(), 7, 8, 64, 255, 256)
	for m := n; m <= mostMutexes; m++ {
		list = append(list, m)
	}
	return list
}

func mutex(rank int, limit int) api.Mutex { return api.Mutex{Rank: rank, Limit: limit} }

// declared are lists that may be: none, of each length, ranks that rise, fall, are equal and mixed, at all bounds. The limits of one list tell each of its sums apart.
func declared() [][]api.Mutex {
	return [][]api.Mutex{
		nil,
		{},
		{mutex(1, 1)},
		{mutex(100, 1000)},
		{mutex(50, 7)},
		{mutex(1, 5), mutex(2, 7)},
		{mutex(2, 7), mutex(1, 5)},
		{mutex(9, 3), mutex(9, 4)},
		{mutex(1, 5), mutex(2, 7), mutex(2, 9)},
		{mutex(100, 1), mutex(1, 1000), mutex(100, 10)},
		{mutex(10, 1), mutex(20, 10), mutex(30, 100), mutex(40, 1000)},
		{mutex(40, 1), mutex(30, 2), mutex(20, 4), mutex(10, 8), mutex(1, 16)},
		{mutex(1, 1), mutex(20, 2), mutex(40, 4), mutex(60, 8), mutex(80, 16), mutex(100, 32)},
		{mutex(100, 1), mutex(99, 2), mutex(98, 4), mutex(3, 8), mutex(2, 16), mutex(1, 32)},
		{mutex(7, 1), mutex(7, 2), mutex(7, 4), mutex(7, 8), mutex(7, 16), mutex(7, 32)},
		{mutex(3, 32), mutex(100, 1), mutex(3, 16), mutex(1, 2), mutex(60, 8), mutex(100, 4)},
		slices.Repeat([]api.Mutex{mutex(100, 1000)}, 6),
		slices.Repeat([]api.Mutex{mutex(1, 1)}, 6),
	}
}

// well is a list of n that may be, each mutex another one.
func well(n int) []api.Mutex {
	list := []api.Mutex{}
	for i := range n {
		list = append(list, mutex(5+i*37%41, 1+i*i*i))
	}
	return list
}

func refused(t *testing.T, list []api.Mutex) {
	t.Helper()
	if x, e := New(list); x != nil || e != api.ErrArg {
		t.Fatalf("New(%v): %v %d", list, x, e)
	}
}

// P10.1: New, Len, Rank, Limit and all else of lists that may be.
func TestDeclared(t *testing.T) {
	for _, list := range declared() {
		b := made(t, list)
		b.check()
		b.check()
	}
}

// P10.1: the document's example.
func TestExample(t *testing.T) {
	x, e := New([]api.Mutex{mutex(1, 5), mutex(2, 7), mutex(2, 9)})
	if e != api.OK || x.May([]int{0}, 2) != api.OK || x.May([]int{1}, 2) != api.ERANK || x.Sum(2) != 16 {
		t.Errorf("New %d, May %d %d, Sum %d", e, x.May([]int{0}, 2), x.May([]int{1}, 2), x.Sum(2))
	}
	if rank, ok := x.Least([]int{2, 1, 9}); rank != 2 || !ok {
		t.Errorf("Least: %d %t", rank, ok)
	}
}

// P10.1: New of lists of none, of as many as may be, of more, all else being well.
func TestLengths(t *testing.T) {
	for n := range mostMutexes + 1 {
		made(t, well(n)).check()
	}
	for _, n := range []int{7, 8, 9, 12, 16, 64, 255, 256, 257, 262, 1 << 16, 1<<16 + 1, 1 << 22} {
		refused(t, slices.Repeat([]api.Mutex{mutex(5, 9)}, n))
	}
}

// P10.1: New of too many is refused whatever stands behind the sixth, and ahead of it.
func TestTooMany(t *testing.T) {
	for _, wrong := range []api.Mutex{{}, mutex(0, 5), mutex(101, 5), mutex(5, 0), mutex(5, 1001)} {
		for at := range 9 {
			list := well(9)
			list[at] = wrong
			refused(t, list)
			if at < mostMutexes {
				refused(t, list[:mostMutexes])
			} else {
				made(t, list[:mostMutexes]).check()
			}
		}
	}
}

// P10.1: New of a Rank and a Limit at each bound and beyond it, at each place of a list of each length, all others being well.
func TestBounds(t *testing.T) {
	ranks := append(strangers(), 0, 1, 2, 50, 99, 100, 101, 102, 128, 255, 256, 257, 1000, 1001)
	limits := append(strangers(), 0, 1, 2, 100, 101, 500, 999, 1000, 1001, 1002, 1023, 1024, 1025)
	for n := 1; n <= mostMutexes; n++ {
		for at := range n {
			for _, rank := range ranks {
				for _, limit := range limits {
					list := well(n)
					list[at] = mutex(rank, limit)
					if rank < 1 || rank > rankTop || limit < 1 || limit > limitTop {
						refused(t, list)
						continue
					}
					b := made(t, list)
					b.one(at)
					b.one(n - 1 - at)
				}
			}
		}
	}
}

// P10.1: each Rank and each Limit that may be, and many that may not, at each place.
func TestEachRankEachLimit(t *testing.T) {
	for at := range mostMutexes {
		for x := -300; x <= 1400; x++ {
			list := well(mostMutexes)
			list[at].Rank = x
			if x < 1 || x > rankTop {
				refused(t, list)
			} else {
				made(t, list).check()
			}
			list = well(mostMutexes)
			list[at].Limit = x
			if x < 1 || x > limitTop {
				refused(t, list)
			} else {
				b := made(t, list)
				b.one(at)
				b.sum(0)
			}
		}
	}
}

// P10.1: two that may not be, at each two places; what is wrong with one is not made good by the other.
func TestTwoWrongOnes(t *testing.T) {
	some := []api.Mutex{{}, mutex(0, 5), mutex(101, 5), mutex(5, 0), mutex(5, 1001), mutex(-5, -5), mutex(200, 2000)}
	for i := range mostMutexes {
		for k := range i {
			for _, one := range some {
				for _, other := range some {
					list := well(mostMutexes)
					list[i], list[k] = one, other
					refused(t, list)
				}
			}
		}
	}
}

// P10.1: Rank, Limit, May and Least of numbers that are no mutex's, in tables of each length.
func TestNoMutexes(t *testing.T) {
	for _, list := range declared() {
		b := made(t, list)
		for _, m := range noMutexes(len(list)) {
			b.one(m)
			b.least([]int{m})
			b.may(nil, m)
			b.may([]int{m}, m)
			for other := range len(list) {
				b.may([]int{other}, m)
				b.may([]int{m}, other)
				b.may([]int{m, other}, m)
				b.least([]int{m, other})
				b.least([]int{other, m})
			}
		}
		b.check()
	}
}

// P10.1: May of each mutex with nothing held, and with numbers held that are no mutex's, one by one and all together.
func TestMayOfWhoHoldsNone(t *testing.T) {
	for _, list := range declared() {
		b := made(t, list)
		for m := range list {
			for _, held := range [][]int{nil, {}, noMutexes(len(list))} {
				if e := b.x.May(held, m); e != api.OK {
					t.Errorf("of %v: May(%v, %d): %d", list, held, m, e)
				}
			}
		}
	}
}

// P10.1: May of a mutex that is held itself: its rank is not above its own.
func TestMayOfWhatIsHeld(t *testing.T) {
	for _, list := range declared() {
		b := made(t, list)
		for m := range list {
			for _, held := range [][]int{{m}, {m, m}, {m, m, m}, {-1, m}, {m, 9}} {
				if e := b.x.May(held, m); e != api.ERANK {
					t.Errorf("of %v: May(%v, %d): %d", list, held, m, e)
				}
			}
		}
	}
}

// P10.1: May with a greater, an equal and a lesser one at each place of held, all others being lesser ones or no mutexes.
func TestMayAtEachPlace(t *testing.T) {
	b := made(t, []api.Mutex{mutex(10, 1), mutex(20, 1), mutex(30, 1), mutex(30, 1), mutex(31, 1), mutex(29, 1)})
	cases := []struct {
		other int
		want  api.Errno
	}{{4, api.ERANK}, {3, api.ERANK}, {2, api.ERANK}, {5, api.OK}, {0, api.OK}, {6, api.OK}, {-1, api.OK}}
	for size := 1; size <= 12; size++ {
		for at := range size {
			for _, c := range cases {
				for _, rest := range [][]int{{0}, {1, 0}, {5, 1, 0}, {-1}, {6, 7}, {0, -3, 5, math.MaxInt, math.MinInt}} {
					held := slices.Repeat(rest, size)[:size]
					held[at] = c.other
					if e := b.x.May(held, 2); e != c.want {
						t.Errorf("May(%v, 2): %d, not %d", held, e, c.want)
					}
					b.may(held, 2)
				}
			}
		}
	}
}

// P10.1: EINVAL is ahead of ERANK, and hangs on m alone.
func TestMayOfNoMutexWithHeldOnes(t *testing.T) {
	for _, list := range declared() {
		b := made(t, list)
		for _, m := range noMutexes(len(list)) {
			for _, held := range [][]int{nil, {0}, {0, 1, 2, 3, 4, 5}, {5, 5}, {m}, {m, 0}, {0, m}, noMutexes(0)} {
				if e := b.x.May(held, m); e != api.EINVAL {
					t.Errorf("of %v: May(%v, %d): %d", list, held, m, e)
				}
			}
		}
	}
}

// lists calls do with each list of up to length of these numbers.
func lists(length int, of []int, do func(list []int)) {
	var next func(list []int)
	next = func(list []int) {
		do(list)
		if len(list) < length {
			for _, x := range of {
				next(append(slices.Clone(list), x))
			}
		}
	}
	next(nil)
}

// P10.1: May and Least of all short lists: in any order, with the same number more than once, with numbers that are no mutex's among them.
func TestAllLists(t *testing.T) {
	for _, list := range declared() {
		b := made(t, list)
		lists(4, []int{-1, 0, 1, 2, 3, 4, 5, 6}, func(numbers []int) {
			b.least(numbers)
			for m := -1; m <= len(list); m++ {
				b.may(numbers, m)
			}
		})
	}
}

// P10.1: all tables of up to four mutexes of few ranks, asked all that tells them apart.
func TestAllTables(t *testing.T) {
	lists(4, []int{1, 2, 3, 100}, func(ranks []int) {
		list := []api.Mutex{}
		for i, rank := range ranks {
			list = append(list, mutex(rank, 1<<i))
		}
		made(t, list).check()
	})
}

// P10.1: Least of none, and of numbers alone that are no mutex's.
func TestLeastOfNone(t *testing.T) {
	for _, list := range declared() {
		b := made(t, list)
		for _, uses := range [][]int{nil, {}, noMutexes(len(list)), {-1, -1}, {6}, {math.MinInt, math.MaxInt}} {
			if rank, ok := b.x.Least(uses); rank != 0 || ok {
				t.Errorf("of %v: Least(%v): %d %t", list, uses, rank, ok)
			}
		}
	}
}

// P10.1: Least finds the least rank at each place, all others being greater ones, equal ones or no mutexes.
func TestLeastAtEachPlace(t *testing.T) {
	b := made(t, []api.Mutex{mutex(90, 1), mutex(4, 1), mutex(5, 1), mutex(100, 1), mutex(4, 1), mutex(3, 1)})
	for size := 1; size <= 12; size++ {
		for at := range size {
			for _, rest := range [][]int{{0}, {3, 0}, {2, 3}, {-1, 0}, {6, 7}, {4, 1}, {math.MinInt, 2, math.MaxInt}} {
				uses := slices.Repeat(rest, size)[:size]
				for other, want := range map[int]int{1: 4, 4: 4, 5: 3} {
					uses[at] = other
					if rank, ok := b.x.Least(uses); rank != want || !ok {
						t.Errorf("Least(%v): %d %t, not %d", uses, rank, ok, want)
					}
				}
			}
		}
	}
}

// P10.1: Least hangs not on the order: each order of some numbers, of both kinds, tells the same.
func TestLeastInAnyOrder(t *testing.T) {
	for _, list := range declared() {
		b := made(t, list)
		numbers := []int{0, 5, 7, 2, -1, 3}
		var swap func(at int)
		swap = func(at int) {
			if at == len(numbers) {
				b.least(numbers)
				b.may(numbers, 4)
			}
			for i := at; i < len(numbers); i++ {
				numbers[at], numbers[i] = numbers[i], numbers[at]
				swap(at + 1)
				numbers[at], numbers[i] = numbers[i], numbers[at]
			}
		}
		swap(0)
	}
}

// P10.1: Sum of each rank: below all, at each one, between two, above all, and of strange numbers.
func TestSum(t *testing.T) {
	for _, list := range declared() {
		b := made(t, list)
		for rank := -1100; rank <= 1100; rank++ {
			b.sum(rank)
		}
		for _, rank := range strangers() {
			b.sum(rank)
		}
	}
	x := made(t, []api.Mutex{mutex(40, 1000), mutex(10, 1), mutex(40, 200), mutex(20, 30)}).x
	for _, c := range [][2]int{
		{math.MinInt, 1231}, {-1, 1231}, {0, 1231}, {1, 1231}, {9, 1231}, {10, 1231}, {11, 1230}, {19, 1230}, {20, 1230},
		{21, 1200}, {39, 1200}, {40, 1200}, {41, 0}, {100, 0}, {101, 0}, {1 << 40, 0}, {math.MaxInt, 0},
	} {
		if got := x.Sum(c[0]); got != c[1] {
			t.Errorf("Sum(%d): %d, not %d", c[0], got, c[1])
		}
	}
}

// P10.1: Sum of as many limits as there may be, the greatest ones, and of none.
func TestSumAtItsBounds(t *testing.T) {
	all := made(t, slices.Repeat([]api.Mutex{mutex(100, 1000)}, mostMutexes)).x
	if all.Sum(1) != 6000 || all.Sum(100) != 6000 || all.Sum(101) != 0 {
		t.Errorf("Sum: %d %d %d", all.Sum(1), all.Sum(100), all.Sum(101))
	}
	none := made(t, nil).x
	for _, rank := range append(strangers(), 0, 1, 100) {
		if got := none.Sum(rank); got != 0 {
			t.Errorf("of none: Sum(%d): %d", rank, got)
		}
	}
}

// dice is a row of numbers by a simple rule, the same ones each time.
type dice uint64

func (d *dice) below(n int) int {
	*d = *d*6364136223846793005 + 1442695040888963407
	return int(uint64(*d)>>33) % n
}

// numbers answers up to most numbers, most of them mutexes'.
func (d *dice) numbers(most int) []int {
	list := make([]int, d.below(most+1))
	for i := range list {
		list[i] = d.below(mostMutexes+2) - 1
		if d.below(10) == 0 {
			list[i] = strangers()[d.below(len(strangers()))]
		}
	}
	return list
}

// P10.1: many tables, of few ranks and of many, asked of many lists.
func TestManyTables(t *testing.T) {
	d := dice(10)
	for range 4000 {
		list, spread := make([]api.Mutex, d.below(mostMutexes+1)), 1+d.below(rankTop)
		for i := range list {
			list[i] = mutex(1+d.below(spread), 1+d.below(limitTop))
		}
		b := made(t, list)
		for range 20 {
			b.may(d.numbers(9), d.below(mostMutexes+2)-1)
			b.least(d.numbers(9))
			b.sum(d.below(rankTop+3) - 1)
			b.one(d.below(mostMutexes+2) - 1)
		}
	}
}

// May and Least of a great list end in a time that its size explains.
func TestGreatLists(t *testing.T) {
	const size = 1 << 22
	b := made(t, []api.Mutex{mutex(3, 1), mutex(8, 1), mutex(9, 1), mutex(2, 1)})
	numbers := slices.Repeat([]int{0, -1, 1, 6}, size/4)
	b.may(numbers, 2)
	b.least(numbers)
	numbers[size-1] = 2
	b.may(numbers, 2)
	b.may(numbers, 7)
	numbers[size-1] = 3
	b.may(numbers, 2)
	b.least(numbers)
}

// R3: calls of no table.
func TestNil(t *testing.T) {
	var x *Table
	for _, m := range append(noMutexes(0), 0, 1, 2, 3, 4, 5) {
		for _, numbers := range [][]int{nil, {}, {0}, {m}, {0, 1, m}} {
			if e := x.May(numbers, m); e != api.ErrNil {
				t.Errorf("May(%v, %d): %d", numbers, m, e)
			}
			if rank, ok := x.Least(numbers); rank != 0 || ok {
				t.Errorf("Least(%v): %d %t", numbers, rank, ok)
			}
		}
		if x.Len() != 0 || x.Rank(m) != 0 || x.Limit(m) != 0 || x.Sum(m) != 0 {
			t.Errorf("of %d: Len %d, Rank %d, Limit %d, Sum %d", m, x.Len(), x.Rank(m), x.Limit(m), x.Sum(m))
		}
	}
}

// R4: the list that New was given, and its spare room, may be written over without the table being changed.
func TestTheListIsNotKept(t *testing.T) {
	for _, list := range declared() {
		room := append(slices.Clone(list), mutex(33, 44), mutex(55, 66))
		part := room[:len(list)]
		b := made(t, part)
		for i := range room {
			room[i] = mutex(77, 88)
			b.check()
		}
		made(t, part).check()
		clear(room)
		b.check()
	}
}

// R4: no call changes what it is given, nor its spare room, nor looks at that.
func TestNothingHandedInIsChanged(t *testing.T) {
	for _, list := range declared() {
		room := append(slices.Clone(list), mutex(0, 0), mutex(-5, 2000))
		was := slices.Clone(room)
		b := made(t, room[:len(list)])
		b.check()
		if !slices.Equal(room, was) {
			t.Fatalf("New: the list became %v from %v", room, was)
		}
		refused(t, room)
		if !slices.Equal(room, was) {
			t.Fatalf("New that refuses: the list became %v from %v", room, was)
		}
		for _, numbers := range [][]int{{}, {5, 0, -1, 3}, {3, 3, 1, 0}, {9, 8, 7}, {0, 1, 2, 3, 4, 5}} {
			b.leaves(numbers)
		}
	}
}

// leaves asks with each beginning of these numbers, the others being its spare room.
func (b both) leaves(numbers []int) {
	b.t.Helper()
	was := slices.Clone(numbers)
	for size := range len(numbers) + 1 {
		for m := -1; m <= mostMutexes; m++ {
			b.may(numbers[:size], m)
		}
		b.least(numbers[:size])
		if !slices.Equal(numbers, was) {
			b.t.Fatalf("of %v: %v became %v", b.r, was, numbers)
		}
	}
}

// R4, R5: what May and Least are given is not kept: numbers that are changed behind a call tell in the next one what they are then.
func TestNumbersAreNotKept(t *testing.T) {
	b := made(t, []api.Mutex{mutex(1, 5), mutex(2, 7), mutex(3, 9)})
	numbers := []int{0, 0}
	b.may(numbers, 1)
	b.least(numbers)
	numbers[1] = 2
	b.may(numbers, 1)
	b.least(numbers)
	numbers[0] = 1
	b.may(numbers, 2)
	b.least(numbers)
	b.may(nil, 1)
	b.least(nil)
	b.check()
}

// R5: a table hangs on its own list alone: others that are made, or refused, change nothing in it.
func TestTablesStandApart(t *testing.T) {
	all := []both{}
	for _, list := range declared() {
		all = append(all, made(t, list))
		refused(t, append(slices.Clone(list), mutex(0, 1)))
		refused(t, append(well(mostMutexes), mutex(1, 1)))
		for _, b := range all {
			b.check()
		}
	}
	slices.Reverse(all)
	for _, b := range all {
		b.check()
	}
}

// R5: New may be called from several goroutines at one time, of one list too.
func TestMadeAtOneTime(t *testing.T) {
	all := declared()
	var group sync.WaitGroup
	for worker := range 4 {
		group.Go(func() {
			for k := range 200 {
				list := all[(k*(2*worker+1))%len(all)]
				x, e := New(list)
				r := rowsOf(list)
				numbers := []int{5, 1, -1, 3}
				rank, _ := x.Least(numbers)
				want, _ := r.least(numbers)
				if e != api.OK || x.Len() != len(list) || x.Sum(3) != r.sum(3) || rank != want || x.May(numbers, 2) != r.may(numbers, 2) {
					t.Errorf("of %v: New %d, Len %d, Sum %d, Least %d, May %d", list, e, x.Len(), x.Sum(3), rank, x.May(numbers, 2))
				}
			}
		})
	}
	group.Wait()
}
