package locks

import (
	"math"
	"slices"
	"strconv"
	"strings"
	"sync"
	"testing"

	"coxswain/api"
	"coxswain/rank"
)

// The chapter's way: what is done with all that is held comes in as a function value, and method values are handed on as it.
var (
	_ func([]api.Held, func(*api.Held)) = each
	_ func(*api.Held)                   = span(1).pass
	_ func(*api.Held)                   = (&numbers{}).add
	_ func(*api.Held)                   = (&release{}).free
	_ func(api.Held) bool               = bound{}.passed
)

// most is the greatest number of ticks there is, from the document.
const most = 1 << 40

// hold is whose a mutex is, at which turn it came to be, and for how many ticks.
type hold struct {
	owner, turn, ticks int
}

// book keeps all by mutexes, as the promises tell it: a mutex that is free is not there.
type book struct {
	mutexes []api.Mutex
	holds   map[int]hold
	waits   map[int]int
	turn    int
}

func bookOf(mutexes []api.Mutex) *book {
	return &book{mutexes, map[int]hold{}, map[int]int{}, 0}
}

// held are the mutexes of thread, the one that came last at the end.
func (b *book) held(thread int) []int {
	list := []int{}
	for m, h := range b.holds {
		if h.owner == thread {
			list = append(list, m)
		}
	}
	slices.SortFunc(list, func(m int, n int) int { return b.holds[m].turn - b.holds[n].turn })
	return list
}

func (b *book) owner(m int) int {
	if h, ok := b.holds[m]; ok {
		return h.owner
	}
	return -1
}

func (b *book) waitsFor(thread int) int {
	if m, ok := b.waits[thread]; ok {
		return m
	}
	return -1
}

func (b *book) may(thread int, m int) api.Errno {
	if m < 0 || m >= len(b.mutexes) {
		return api.EINVAL
	}
	for _, other := range b.held(thread) {
		if b.mutexes[other].Rank >= b.mutexes[m].Rank {
			return api.ERANK
		}
	}
	return api.OK
}

func (b *book) lock(thread int, m int) (bool, api.Errno) {
	if thread < 0 {
		return false, api.ErrArg
	}
	if b.waitsFor(thread) != -1 {
		return false, api.ErrBusy
	}
	if e := b.may(thread, m); e != api.OK {
		return false, e
	}
	if b.owner(m) != -1 {
		b.waits[thread] = m
		return false, api.OK
	}
	b.turn++
	b.holds[m] = hold{thread, b.turn, 0}
	return true, api.OK
}

// free makes m nobody's and answers who waited for it.
func (b *book) free(m int) []int {
	delete(b.holds, m)
	woken := []int{}
	for thread, n := range b.waits {
		if n == m {
			woken = append(woken, thread)
		}
	}
	for _, thread := range woken {
		delete(b.waits, thread)
	}
	slices.Sort(woken)
	return woken
}

func (b *book) unlock(thread int, m int) ([]int, api.Errno) {
	held := b.held(thread)
	if len(held) == 0 || held[len(held)-1] != m {
		return nil, api.EPERM
	}
	return b.free(m), api.OK
}

func (b *book) leave(thread int) []int {
	delete(b.waits, thread)
	woken := []int{}
	for _, m := range b.held(thread) {
		woken = append(woken, b.free(m)...)
	}
	slices.Sort(woken)
	return woken
}

// clipped is what P1 tells of a number.
func clipped(x int) int { return min(max(x, 0), most) }

func (b *book) run(thread int, ticks int) {
	for m, h := range b.holds {
		if h.owner == thread {
			b.holds[m] = hold{thread, h.turn, min(h.ticks+clipped(ticks), most)}
		}
	}
}

func (b *book) over(thread int, ticks int) bool {
	over := false
	for _, m := range b.held(thread) {
		over = over || b.holds[m].ticks+clipped(ticks) > b.mutexes[m].Limit
	}
	return over
}

// both is locks and their book; each call is made of both.
type both struct {
	t *testing.T
	l *Locks
	b *book
}

func made(t *testing.T, list []api.Mutex) both {
	t.Helper()
	table, e := rank.New(list)
	if e != api.OK {
		t.Fatalf("of %v: %d", list, e)
	}
	return both{t, New(table), bookOf(slices.Clone(list))}
}

// step is a call that changes something; of a Run x is its ticks, else a mutex.
type step struct {
	call, thread, x int
}

const (
	locking = iota
	unlocking
	leaving
	running
)

// answer is what a step is answered.
type answer struct {
	had   bool
	woken []int
	e     api.Errno
}

// answers makes the step in both, and tells what each answers.
func (b both) answers(s step) (got answer, want answer) {
	switch s.call {
	case locking:
		got.had, got.e = b.l.Lock(s.thread, s.x)
		want.had, want.e = b.b.lock(s.thread, s.x)
	case unlocking:
		got.woken, got.e = b.l.Unlock(s.thread, s.x)
		want.woken, want.e = b.b.unlock(s.thread, s.x)
	case leaving:
		got.woken = b.l.Leave(s.thread)
		want.woken = b.b.leave(s.thread)
	case running:
		b.l.Run(s.thread, s.x)
		b.b.run(s.thread, s.x)
	}
	return got, want
}

func (a answer) same(other answer) bool {
	return a.had == other.had && a.e == other.e && slices.Equal(a.woken, other.woken)
}

func (b both) do(s step) answer {
	b.t.Helper()
	got, want := b.answers(s)
	if !got.same(want) {
		b.t.Fatalf("of %v: %v, not %v; then %s", s, got, want, b.b.told())
	}
	return got
}

func (b both) lock(thread int, m int) (bool, api.Errno) {
	b.t.Helper()
	a := b.do(step{locking, thread, m})
	return a.had, a.e
}

func (b both) unlock(thread int, m int) ([]int, api.Errno) {
	b.t.Helper()
	a := b.do(step{unlocking, thread, m})
	return a.woken, a.e
}

func (b both) leave(thread int) []int {
	b.t.Helper()
	return b.do(step{leaving, thread, 0}).woken
}

func (b both) run(thread int, ticks int) {
	b.t.Helper()
	b.do(step{running, thread, ticks})
	b.held(thread)
}

func (b both) over(thread int, ticks int) bool {
	b.t.Helper()
	got := b.l.Over(thread, ticks)
	if want := b.b.over(thread, ticks); got != want {
		b.t.Fatalf("Over(%d, %d): %t, not %t; %v", thread, ticks, got, want, b.l.Held(thread))
	}
	return got
}

func (b both) held(thread int) []api.Held {
	b.t.Helper()
	got, want := b.l.Held(thread), []api.Held{}
	for _, m := range b.b.held(thread) {
		want = append(want, api.Held{Mutex: m, Ticks: b.b.holds[m].ticks})
	}
	if !slices.Equal(got, want) {
		b.t.Fatalf("Held(%d): %v, not %v", thread, got, want)
	}
	return got
}

// one asks all that is told of a thread, at each limit of what it holds too.
func (b both) one(thread int) {
	b.t.Helper()
	if got, want := b.l.Waits(thread), b.b.waitsFor(thread); got != want {
		b.t.Fatalf("Waits(%d): %d, not %d", thread, got, want)
	}
	for _, h := range b.held(thread) {
		left := b.b.mutexes[h.Mutex].Limit - h.Ticks
		for ticks := left - 1; ticks <= left+1; ticks++ {
			b.over(thread, ticks)
		}
	}
	b.over(thread, 0)
}

// owner asks whose m is.
func (b both) owner(m int) {
	b.t.Helper()
	if got, want := b.l.Owner(m), b.b.owner(m); got != want {
		b.t.Fatalf("Owner(%d): %d, not %d", m, got, want)
	}
}

// owners asks whose each mutex is, and of some that there are not.
func (b both) owners() {
	b.t.Helper()
	want := []int{}
	for m := range b.b.mutexes {
		want = append(want, b.b.owner(m))
	}
	if got := b.l.Owners(); !slices.Equal(got, want) {
		b.t.Fatalf("Owners: %v, not %v", got, want)
	}
	for m := -2; m < len(b.b.mutexes)+3; m++ {
		b.owner(m)
	}
}

// check asks of all mutexes, of all threads that have to do with one, and of these threads.
func (b both) check(threads ...int) {
	b.t.Helper()
	b.owners()
	for _, thread := range threads {
		b.one(thread)
	}
	for m := range b.b.mutexes {
		b.one(b.b.owner(m))
	}
	for thread := range b.b.waits {
		b.one(thread)
		b.rises(thread)
	}
	b.whole()
}

// whole asks what must be of each mutex that is held, by what the locks tell alone: whose it is holds it, and ranks rise along what that one holds (P12.3).
func (b both) whole() {
	b.t.Helper()
	for m, owner := range b.l.Owners() {
		if owner == -1 {
			continue
		}
		ranks, there := []int{}, false
		for _, h := range b.l.Held(owner) {
			ranks = append(ranks, b.b.mutexes[h.Mutex].Rank)
			there = there || h.Mutex == m
		}
		if !there {
			b.t.Fatalf("%d is %d's, who holds %v", m, owner, b.l.Held(owner))
		}
		for i := 1; i < len(ranks); i++ {
			if ranks[i-1] >= ranks[i] {
				b.t.Fatalf("P12.3: of %d: ranks %v", owner, ranks)
			}
		}
	}
}

// rises goes from thread along whom each one waits for: what each waits for is somebody's, of a greater rank than all that it holds, and nobody comes twice (P12.3).
func (b both) rises(thread int) {
	b.t.Helper()
	chain := []int{}
	for m := b.l.Waits(thread); m != -1; m = b.l.Waits(thread) {
		if slices.Contains(chain, thread) {
			b.t.Fatalf("P12.3: %d waits for itself: %v", thread, chain)
		}
		chain = append(chain, thread)
		for _, h := range b.l.Held(thread) {
			if b.b.mutexes[h.Mutex].Rank >= b.b.mutexes[m].Rank {
				b.t.Fatalf("P12.3: %d holds %v and waits for %d", thread, b.l.Held(thread), m)
			}
		}
		if thread = b.l.Owner(m); thread == -1 {
			b.t.Fatalf("P12.1: %v wait for %d, which is free", chain, m)
		}
	}
}

// told writes what the book holds: two that tell the same are alike in all that calls can tell.
func (b *book) told() string {
	list := []string{}
	for m, h := range b.holds {
		place := slices.Index(b.held(h.owner), m)
		list = append(list, strconv.Itoa(m)+" is "+strconv.Itoa(h.owner)+"'s, its "+strconv.Itoa(place)+"th, for "+strconv.Itoa(h.ticks))
	}
	for thread, m := range b.waits {
		list = append(list, strconv.Itoa(thread)+" waits for "+strconv.Itoa(m))
	}
	slices.Sort(list)
	return strings.Join(list, "; ")
}

// strangers are numbers that are no mutex', and few threads': the least and the greatest, and those that would be a small one if their higher bits or their sign were lost.
func strangers() []int {
	return []int{
		math.MinInt, math.MinInt + 1, math.MinInt + 2, math.MinInt32, -1 << 32, -1<<32 + 1, -1 << 16, -1<<16 + 2, -256, -255, -3, -2, -1,
		20, 21, 63, 64, 65, 255, 256, 257, 1 << 16, 1<<16 + 1, 1 << 32, 1<<32 + 1, 1<<32 + 2, 1 << 62, 1<<62 + 1, math.MaxInt32, math.MaxInt - 2, math.MaxInt - 1, math.MaxInt,
	}
}

// noMutexes are the strangers and those just beside n mutexes.
func noMutexes(n int) []int { return append(strangers(), n, n+1, n+2, 7) }

// threads are those of the strangers that may be threads.
func threads() []int {
	return slices.DeleteFunc(append([]int{0, 1, 2, 19}, strangers()...), func(thread int) bool { return thread < 0 })
}

func ranked(rank int, limit int) api.Mutex { return api.Mutex{Rank: rank, Limit: limit} }

// rising are n mutexes of rising ranks.
func rising(n int) []api.Mutex {
	list := []api.Mutex{}
	for i := range n {
		list = append(list, ranked(10*i+1, i+3))
	}
	return list
}

// declared are mutexes of each number, with ranks that rise, fall, are equal and mixed.
func declared() [][]api.Mutex {
	list := [][]api.Mutex{{ranked(1, 5), ranked(2, 7)}, {ranked(1, 1), ranked(1, 1000), ranked(1, 2)}}
	for n := range api.MaxMutexes + 1 {
		list = append(list, rising(n))
		falling := rising(n)
		slices.Reverse(falling)
		list = append(list, falling)
	}
	return append(list, []api.Mutex{ranked(50, 9), ranked(3, 2), ranked(100, 1000), ranked(3, 1), ranked(50, 30), ranked(99, 4)})
}

// P12.1, P12.2: the document's example.
func TestExample(t *testing.T) {
	b := made(t, []api.Mutex{ranked(1, 5), ranked(2, 7)})
	for _, c := range []struct {
		thread, m int
		got       bool
		e         api.Errno
	}{{3, 0, true, api.OK}, {4, 1, true, api.OK}, {4, 0, false, api.ERANK}, {3, 1, false, api.OK}} {
		if got, e := b.lock(c.thread, c.m); got != c.got || e != c.e {
			t.Errorf("Lock(%d, %d): %t %d", c.thread, c.m, got, e)
		}
	}
	if woken, e := b.unlock(4, 1); !slices.Equal(woken, []int{3}) || e != api.OK {
		t.Errorf("Unlock: %v %d", woken, e)
	}
	b.run(3, 4)
	if b.over(3, 1) || !b.over(3, 2) {
		t.Error("Over")
	}
	b.check(3, 4)
}

// P12.1, P12.2: of a nil table and of one of none there are no mutexes, whatever is asked.
func TestNoMutexes(t *testing.T) {
	empty, _ := rank.New([]api.Mutex{})
	nothing, _ := rank.New(nil)
	for _, table := range []*rank.Table{nil, empty, nothing} {
		b := both{t, New(table), bookOf(nil)}
		for _, m := range append(noMutexes(0), 1, 2, 3) {
			for _, thread := range append(strangers(), 0, 1, 2) {
				want := api.EINVAL
				if thread < 0 {
					want = api.ErrArg
				}
				if got, e := b.lock(thread, m); got || e != want {
					t.Errorf("Lock(%d, %d): %t %d", thread, m, got, e)
				}
				if woken, e := b.unlock(thread, m); woken != nil || e != api.EPERM {
					t.Errorf("Unlock(%d, %d): %v %d", thread, m, woken, e)
				}
				if woken := b.leave(thread); len(woken) != 0 {
					t.Errorf("Leave(%d): %v", thread, woken)
				}
				b.run(thread, m)
				b.over(thread, m)
				b.one(thread)
				b.owner(m)
			}
		}
		if len(b.l.Owners()) != 0 {
			t.Errorf("Owners: %v", b.l.Owners())
		}
	}
}

// P12.1: New of each number of mutexes: all are free, nobody holds one or waits, and each may be locked at once.
func TestNew(t *testing.T) {
	for _, list := range declared() {
		for m := range list {
			b := made(t, list)
			free := slices.Repeat([]int{-1}, len(list))
			if got := b.l.Owners(); !slices.Equal(got, free) {
				t.Errorf("of %v: Owners: %v", list, got)
			}
			b.check(append(strangers(), 0, 1, 2)...)
			if got, e := b.lock(m, m); !got || e != api.OK {
				t.Errorf("of %v: Lock(%d, %d): %t %d", list, m, m, got, e)
			}
			free[m] = m
			if got := b.l.Owners(); !slices.Equal(got, free) {
				t.Errorf("of %v: Owners: %v, not %v", list, got, free)
			}
			b.check(0, 1, 2, 3, 4, 5)
		}
	}
}

// P12.1: Lock of a thread below 0 is ErrArg, whatever the mutex is: free, held, waited for, none.
func TestLockOfThreadBelowNone(t *testing.T) {
	b := made(t, rising(4))
	b.lock(0, 1)
	b.lock(5, 1)
	b.lock(6, 3)
	for _, thread := range strangers() {
		if thread >= 0 {
			continue
		}
		for _, m := range append(noMutexes(4), 0, 1, 2, 3) {
			if got, e := b.lock(thread, m); got || e != api.ErrArg {
				t.Errorf("Lock(%d, %d): %t %d", thread, m, got, e)
			}
		}
		b.check(thread)
	}
}

// P12.1: Lock of one that waits is ErrBusy, whatever the mutex is: the one that it waits for, one of a lesser rank, one that it holds, a free one, none; when it waits no more it may.
func TestLockOfWhoWaits(t *testing.T) {
	b := made(t, []api.Mutex{ranked(1, 5), ranked(3, 5), ranked(4, 5), ranked(2, 5), ranked(4, 5), ranked(5, 5)})
	b.lock(1, 2)
	b.lock(0, 3)
	b.lock(0, 1)
	for _, c := range []struct{ thread, m int }{{0, 2}, {8, 2}, {math.MaxInt, 3}} {
		b.lock(c.thread, c.m)
		for _, m := range append(noMutexes(6), 0, 1, 2, 3, 4, 5) {
			if got, e := b.lock(c.thread, m); got || e != api.ErrBusy || b.l.Waits(c.thread) != c.m {
				t.Errorf("Lock(%d, %d): %t %d, Waits %d", c.thread, m, got, e, b.l.Waits(c.thread))
			}
		}
	}
	b.check(0, 1, 8, math.MaxInt)
	b.unlock(1, 2)
	for _, m := range []int{2, 5} {
		if got, e := b.lock(0, m); !got || e != api.OK {
			t.Errorf("Lock(0, %d): %t %d", m, got, e)
		}
	}
	b.check(0, 1, 8, math.MaxInt)
}

// P12.1: Lock of a mutex that there is none of is EINVAL, on either side, whoever holds what.
func TestLockOfNoMutex(t *testing.T) {
	for _, list := range declared() {
		b := made(t, list)
		for m := range list {
			b.lock(3, m)
		}
		for _, m := range noMutexes(len(list)) {
			if 0 <= m && m < len(list) {
				continue
			}
			for _, thread := range []int{0, 3, 4, math.MaxInt} {
				if got, e := b.lock(thread, m); got || e != api.EINVAL {
					t.Errorf("of %v: Lock(%d, %d): %t %d", list, thread, m, got, e)
				}
			}
		}
		b.check(0, 3, 4, math.MaxInt)
	}
}

// P12.1: Lock of a mutex whose rank is not above each that is held is ERANK: of the held one itself, of an equal rank, of a lesser one, be it free or another's.
func TestLockOfRankNotAbove(t *testing.T) {
	list := []api.Mutex{ranked(10, 5), ranked(20, 5), ranked(20, 5), ranked(19, 5), ranked(21, 5), ranked(10, 5)}
	for _, others := range [][]int{nil, {2, 4}, {3}, {5, 3, 2}} {
		for _, first := range [][]int{{1}, {0, 1}} {
			b := made(t, list)
			for _, m := range others {
				b.lock(9, m)
			}
			for _, m := range first {
				b.lock(7, m)
			}
			for _, m := range []int{0, 1, 2, 3, 5} {
				if got, e := b.lock(7, m); got || e != api.ERANK {
					t.Errorf("Lock(7, %d): %t %d", m, got, e)
				}
				b.check(7, 9)
			}
			if _, e := b.lock(7, 4); e != api.OK {
				t.Errorf("Lock(7, 4): %d", e)
			}
			b.check(7, 9)
		}
	}
}

// P12.1: Lock of a mutex that another one holds: thread waits for it, whoever else does, and it stays the other one's.
func TestLockOfAnothersMutex(t *testing.T) {
	b := made(t, rising(3))
	b.lock(1<<40, 1)
	b.run(1<<40, 2)
	for _, thread := range threads() {
		if got, e := b.lock(thread, 1); got || e != api.OK {
			t.Errorf("Lock(%d, 1): %t %d", thread, got, e)
		}
		if b.l.Waits(thread) != 1 || b.l.Owner(1) != 1<<40 || len(b.l.Held(thread)) != 0 {
			t.Errorf("Waits(%d): %d; Owner(1): %d", thread, b.l.Waits(thread), b.l.Owner(1))
		}
		b.check(threads()...)
	}
}

// P12.1: Unlock is EPERM of all but the last one that thread holds: an earlier one, another's, a free one, none; and changes nothing.
func TestUnlockOfNotTheLast(t *testing.T) {
	for _, list := range declared() {
		b := made(t, list)
		for m := range list {
			b.lock(m%2, m)
			b.run(m%2, 1)
			b.lock(m+10, m)
		}
		for thread := -3; thread < len(list)+12; thread++ {
			held := b.b.held(thread)
			for _, m := range append(noMutexes(len(list)), 0, 1, 2, 3, 4, 5) {
				if len(held) > 0 && held[len(held)-1] == m {
					continue
				}
				if woken, e := b.unlock(thread, m); woken != nil || e != api.EPERM {
					t.Errorf("of %v: Unlock(%d, %d): %v %d", list, thread, m, woken, e)
				}
			}
		}
		b.check(-1, 0, 1, 2, 10, 11, 12, 13, 14, 15)
	}
}

// P12.1: Unlock of all that one holds, the last one first: one by one they are free, and it may have them again, with 0 ticks.
func TestUnlockOneByOne(t *testing.T) {
	for n := range api.MaxMutexes + 1 {
		b := made(t, rising(n))
		for range 3 {
			for m := range n {
				b.lock(4, m)
				b.run(4, 1)
			}
			for m := n - 1; m >= 0; m-- {
				for other := range n {
					if other != m {
						b.unlock(4, other)
					}
				}
				if woken, e := b.unlock(4, m); len(woken) != 0 || e != api.OK {
					t.Errorf("Unlock(4, %d): %v %d", m, woken, e)
				}
				b.check(4)
				if got, e := b.lock(4, m); !got || e != api.OK || b.l.Held(4)[m] != (api.Held{Mutex: m}) {
					t.Errorf("Lock(4, %d): %t %d, Held %v", m, got, e, b.l.Held(4))
				}
				b.unlock(4, m)
			}
		}
		b.check(4)
	}
}

// waiting are locks of four mutexes, of rising ranks, thread 100 + m holding each m, and for each m those of waits[m] waiting, in that order.
func waiting(t *testing.T, waits [][]int) both {
	t.Helper()
	b := made(t, rising(4))
	for m := range 4 {
		b.lock(100+m, m)
	}
	for m, list := range waits {
		for _, thread := range list {
			b.lock(thread, m)
		}
	}
	return b
}

// P12.1: Unlock answers who waited for it, rising, in whatever order they came: none, one, several; those who wait for another mutex go on waiting.
func TestUnlockTellsWhoWaited(t *testing.T) {
	some := [][]int{nil, {5}, {7, 2}, {1, 3, 9}, {40, 30, 20, 10}, {math.MaxInt, 0, 1 << 32}, {64, 63, 65, 6}, {19, 18, 17, 16, 15, 14, 13, 12, 11}}
	for i, of := range some {
		for k, others := range some {
			if i == k {
				continue
			}
			for m := range 4 {
				waits := make([][]int, 4)
				waits[m], waits[(m+1)%4] = of, others
				b := waiting(t, waits)
				want := slices.Sorted(slices.Values(of))
				if woken, e := b.unlock(100+m, m); !slices.Equal(woken, want) || e != api.OK {
					t.Errorf("Unlock(%d, %d): %v %d, not %v", 100+m, m, woken, e, want)
				}
				for _, thread := range others {
					if got := b.l.Waits(thread); got != (m+1)%4 {
						t.Errorf("Waits(%d): %d", thread, got)
					}
				}
				for _, thread := range of {
					if got := b.l.Waits(thread); got != -1 || len(b.l.Held(thread)) != 0 {
						t.Errorf("Waits(%d): %d, Held %v", thread, got, b.l.Held(thread))
					}
				}
				b.check()
				if again := b.leave(100 + m); len(again) != 0 {
					t.Errorf("Leave(%d): %v", 100+m, again)
				}
			}
		}
	}
}

// P12.1: who was woken waits for nothing, and does not hold the mutex yet: the first who locks it has it, be it somebody who did not wait, and the others wait for it again.
func TestWhoWasWokenMayLock(t *testing.T) {
	woken := []int{3, 8, 20}
	for _, first := range []int{3, 8, 20, 100, 0, math.MaxInt} {
		b := waiting(t, [][]int{{20, 3, 8}})
		b.unlock(100, 0)
		if b.l.Owner(0) != -1 {
			t.Errorf("Owner(0): %d", b.l.Owner(0))
		}
		for _, thread := range append([]int{first}, woken...) {
			got, e := b.lock(thread, 0)
			if thread != first && (got || e != api.OK || b.l.Waits(thread) != 0) {
				t.Errorf("Lock(%d, 0): %t %d, Waits %d", thread, got, e, b.l.Waits(thread))
			}
		}
		if held := b.l.Held(first); b.l.Owner(0) != first || !slices.Equal(held, []api.Held{{}}) {
			t.Errorf("Owner(0): %d, Held %v", b.l.Owner(0), held)
		}
		b.check(woken...)
		want := slices.DeleteFunc(slices.Clone(woken), func(thread int) bool { return thread == first })
		if got, e := b.unlock(first, 0); !slices.Equal(got, want) || e != api.OK {
			t.Errorf("Unlock(%d, 0): %v %d, not %v", first, got, e, want)
		}
		b.check(woken...)
	}
}

// P12.1: who was woken from one mutex and waits for another one is told by the other one's Unlock alone.
func TestWhoWaitsForAnotherOneThen(t *testing.T) {
	b := waiting(t, [][]int{{3, 8}})
	b.unlock(100, 0)
	b.lock(3, 2)
	b.lock(100, 0)
	if woken, _ := b.unlock(100, 0); len(woken) != 0 {
		t.Errorf("Unlock(100, 0): %v", woken)
	}
	if woken, _ := b.unlock(102, 2); !slices.Equal(woken, []int{3}) {
		t.Errorf("Unlock(102, 2): %v", woken)
	}
	b.check(3, 8)
}

// P12.1: who waits may unlock the last one that it holds; it goes on waiting.
func TestUnlockOfWhoWaits(t *testing.T) {
	b := made(t, rising(4))
	b.lock(1, 0)
	b.lock(1, 1)
	b.lock(2, 3)
	b.lock(1, 3)
	b.lock(7, 1)
	b.lock(6, 0)
	for _, c := range []struct {
		m     int
		woken []int
		e     api.Errno
	}{{3, nil, api.EPERM}, {0, nil, api.EPERM}, {1, []int{7}, api.OK}, {0, []int{6}, api.OK}, {0, nil, api.EPERM}} {
		if woken, e := b.unlock(1, c.m); !slices.Equal(woken, c.woken) || e != c.e || b.l.Waits(1) != 3 {
			t.Errorf("Unlock(1, %d): %v %d, Waits %d", c.m, woken, e, b.l.Waits(1))
		}
		b.check(1, 2, 6, 7)
	}
}

// P12.1: Leave of who holds nothing and waits for nothing, of strangers too: nobody is told, and nothing changes.
func TestLeaveOfStrangers(t *testing.T) {
	b := waiting(t, [][]int{{3}, {8, 5}, nil, {9}})
	was := b.b.told()
	for _, thread := range append(strangers(), 0, 1, 2, 99, 104) {
		if woken := b.leave(thread); len(woken) != 0 {
			t.Errorf("Leave(%d): %v", thread, woken)
		}
	}
	if b.b.told() != was {
		t.Errorf("it became %s from %s", b.b.told(), was)
	}
	b.check(3, 5, 8, 9)
}

// P12.1: Leave of who waits: it waits no more, nobody is told, and an Unlock of the mutex does not tell it; it may lock again.
func TestLeaveOfWhoWaits(t *testing.T) {
	for _, thread := range threads() {
		b := waiting(t, [][]int{{77, thread, 70}, {78}})
		if woken := b.leave(thread); len(woken) != 0 || b.l.Waits(thread) != -1 {
			t.Errorf("Leave(%d): %v, Waits %d", thread, woken, b.l.Waits(thread))
		}
		b.check(thread, 70, 77, 78)
		if woken, _ := b.unlock(100, 0); !slices.Equal(woken, []int{70, 77}) {
			t.Errorf("Unlock(100, 0): %v", woken)
		}
		if got, e := b.lock(thread, 0); !got || e != api.OK {
			t.Errorf("Lock(%d, 0): %t %d", thread, got, e)
		}
		b.check(thread, 70, 77, 78)
	}
}

// P12.1: Leave of who holds one or several, and of who waits as well: all that it holds is free, who waited for any of these is told, rising, once, and others go on waiting.
func TestLeaveOfWhoHolds(t *testing.T) {
	for held := range 64 {
		for _, waits := range []int{-1, 5} {
			b := made(t, rising(6))
			b.lock(200, 5)
			want := []int{}
			for m := range 6 {
				if held>>m&1 == 1 {
					b.lock(9, m)
				} else {
					b.lock(100+m, m)
				}
				for _, thread := range []int{40 - m, 50 + m, 10 + 3*m} {
					b.lock(thread, m)
					if held>>m&1 == 1 && m != 5 {
						want = append(want, thread)
					}
				}
			}
			if b.l.Waits(9) == -1 {
				b.lock(9, waits)
			}
			slices.Sort(want)
			if woken := b.leave(9); !slices.Equal(woken, want) {
				t.Errorf("Leave of who holds %06b: %v, not %v", held, woken, want)
			}
			if b.l.Waits(9) != -1 || len(b.l.Held(9)) != 0 {
				t.Errorf("of %06b: Waits %d, Held %v", held, b.l.Waits(9), b.l.Held(9))
			}
			for m := range 6 {
				if free := b.l.Owner(m) == -1; free != (m != 5 && held>>m&1 == 1) {
					t.Errorf("of %06b: Owner(%d): %d", held, m, b.l.Owner(m))
				}
			}
			b.check(9, 200)
			if woken := b.leave(9); len(woken) != 0 {
				t.Errorf("Leave again: %v", woken)
			}
			if woken, _ := b.unlock(200, 5); slices.Contains(woken, 9) {
				t.Errorf("Unlock(200, 5): %v", woken)
			}
			b.check(9)
		}
	}
}

// P12.1: what was left may be locked again, by any, with 0 ticks.
func TestLockOfWhatWasLeft(t *testing.T) {
	for thread := range 3 {
		b := made(t, rising(3))
		for m := range 3 {
			b.lock(1, m)
			b.run(1, 5)
		}
		b.leave(1)
		for m := range 3 {
			if got, e := b.lock(thread, m); !got || e != api.OK || b.l.Held(thread)[m] != (api.Held{Mutex: m}) {
				t.Errorf("Lock(%d, %d): %t %d, Held %v", thread, m, got, e, b.l.Held(thread))
			}
		}
		b.check(0, 1, 2)
	}
}

// P12.2: Run of one who holds nothing, waits, or is a stranger changes nothing; each runs for its own alone.
func TestRunOfEachAlone(t *testing.T) {
	b := waiting(t, [][]int{{3}})
	b.lock(101, 3)
	for _, thread := range append(strangers(), 3, 101, 100) {
		for _, ticks := range []int{1, 7, -1, 0, math.MaxInt, math.MinInt} {
			b.run(thread, ticks)
			b.check(3)
		}
	}
	if b.l.Held(102)[0].Ticks != 0 || b.l.Held(100)[0].Ticks != most || b.l.Held(101)[0].Ticks != most {
		t.Errorf("Held: %v, %v, %v", b.l.Held(100), b.l.Held(101), b.l.Held(102))
	}
}

// P12.2: Run of several: each that is held has those ticks more that went by since it was locked.
func TestRunOfSeveral(t *testing.T) {
	b := made(t, rising(6))
	want := []api.Held{}
	for m := range 6 {
		b.lock(2, m)
		want = append(want, api.Held{Mutex: m})
		b.run(2, 1<<m)
		for i := range want {
			want[i].Ticks += 1 << m
		}
		if got := b.l.Held(2); !slices.Equal(got, want) {
			t.Errorf("Held(2): %v, not %v", got, want)
		}
		b.check(2)
	}
	for m := 5; m >= 0; m-- {
		b.unlock(2, m)
		b.run(2, 3)
		b.check(2)
	}
}

// spans are ticks about all bounds.
func spans() []int {
	return []int{
		math.MinInt, math.MinInt + 1, -1<<40 - 1, -1 << 40, -1 << 32, -5, -1, 0, 1, 2, 3, 4, 5, 6, 7, 999, 1000, 1001, 1 << 20, 1 << 32,
		1<<40 - 1001, 1<<40 - 1000, 1<<40 - 1, 1 << 40, 1<<40 + 1, 1 << 62, math.MaxInt - 1, math.MaxInt,
	}
}

// P12.2: Run and Over of ticks about all bounds, on top of one another: below 0 they are none, and the sum stays at the greatest.
func TestTicksAtTheirBounds(t *testing.T) {
	for _, first := range spans() {
		for _, then := range spans() {
			b := made(t, []api.Mutex{ranked(1, 1000), ranked(2, 5)})
			b.lock(4, 0)
			b.run(4, first)
			b.lock(4, 1)
			b.run(4, then)
			want := []api.Held{{Mutex: 0, Ticks: clipped(clipped(first) + clipped(then))}, {Mutex: 1, Ticks: clipped(then)}}
			if got := b.l.Held(4); !slices.Equal(got, want) {
				t.Errorf("Held behind %d and %d: %v, not %v", first, then, got, want)
			}
			for _, ticks := range spans() {
				b.over(4, ticks)
			}
			b.check(4)
			b.run(4, 1)
			b.check(4)
		}
	}
}

// P12.2: Over at each limit, one below and one above it, from each number of ticks to some beyond it: at the limit it is not over.
func TestOverAtTheLimit(t *testing.T) {
	for _, limit := range []int{1, 2, 3, 5, 64, 255, 256, 257, 999, 1000} {
		b := made(t, []api.Mutex{ranked(1, 1000), ranked(2, limit)})
		b.lock(0, 1)
		for ticks := range limit + 3 {
			for more := limit - ticks - 2; more <= limit-ticks+2; more++ {
				if got, want := b.over(0, more), ticks+max(more, 0) > limit; got != want {
					t.Errorf("Over(0, %d) at %d of %d: %t", more, ticks, limit, got)
				}
			}
			b.run(0, 1)
		}
	}
}

// P12.2: Over of several: whichever one is over, be it the first, the last or one in the midst, by its own ticks and its own limit.
func TestOverOfSeveral(t *testing.T) {
	for at := range 6 {
		list := []api.Mutex{}
		for m := range 6 {
			list = append(list, ranked(m+1, 1000))
		}
		list[at].Limit = 20
		b := made(t, list)
		for m := range 6 {
			b.lock(3, m)
			b.run(3, 1)
		}
		// The one at this place is held for 6 - at ticks.
		left := 20 - (6 - at)
		if b.over(3, left) || !b.over(3, left+1) || b.over(3, -1) {
			t.Errorf("Over with a limit at %d", at)
		}
		b.run(3, left)
		if b.over(3, 0) || !b.over(3, 1) {
			t.Errorf("Over at the limit at %d", at)
		}
		b.run(3, 1)
		if !b.over(3, 0) || !b.over(3, math.MinInt) {
			t.Errorf("Over beyond the limit at %d", at)
		}
		b.check(3)
		for m := 5; m >= 0; m-- {
			b.unlock(3, m)
			if got := b.over(3, 0); got != (m > at) {
				t.Errorf("Over without %d: %t", m, got)
			}
		}
	}
}

// P12.2: Over of who holds nothing, waits, or is a stranger is false, of whatever ticks; and Over changes nothing.
func TestOverOfNothing(t *testing.T) {
	b := waiting(t, [][]int{{3}})
	for _, thread := range append(strangers(), 0, 3, 99) {
		for _, ticks := range spans() {
			if b.over(thread, ticks) {
				t.Errorf("Over(%d, %d)", thread, ticks)
			}
		}
	}
	for _, ticks := range spans() {
		b.over(100, ticks)
		b.check()
	}
}

// P12.2: Held is told in the order in which it came to, be the numbers rising, falling or mixed.
func TestHeldInOrder(t *testing.T) {
	list := []api.Mutex{ranked(60, 5), ranked(10, 5), ranked(40, 5), ranked(50, 5), ranked(20, 5), ranked(30, 5)}
	b := made(t, list)
	want := []api.Held{}
	for _, m := range []int{1, 4, 5, 2, 3, 0} {
		b.lock(11, m)
		want = append(want, api.Held{Mutex: m})
		if got := b.l.Held(11); !slices.Equal(got, want) {
			t.Errorf("Held(11): %v, not %v", got, want)
		}
	}
	b.unlock(11, 0)
	b.unlock(11, 3)
	b.lock(11, 0)
	if got := b.l.Held(11); !slices.Equal(got, []api.Held{{Mutex: 1}, {Mutex: 4}, {Mutex: 5}, {Mutex: 2}, {}}) {
		t.Errorf("Held(11): %v", got)
	}
	b.check(11)
}

// P12.2: Owner, Held and Waits of numbers that are no mutex' and no thread's, while all is held and waited for.
func TestStrangers(t *testing.T) {
	for _, list := range declared() {
		b := made(t, list)
		for m := range list {
			b.lock(m, m)
			b.lock(6+m, m)
		}
		for _, x := range noMutexes(len(list)) {
			if got := b.l.Owner(x); got != -1 && (x < 0 || x >= len(list)) {
				t.Errorf("of %v: Owner(%d): %d", list, x, got)
			}
			b.owner(x)
			b.one(x)
		}
		for _, x := range strangers() {
			if b.l.Waits(x) != -1 || len(b.l.Held(x)) != 0 {
				t.Errorf("of %v: Waits(%d): %d, Held %v", list, x, b.l.Waits(x), b.l.Held(x))
			}
		}
		b.check()
	}
}

// P12.1, P12.2: threads by numbers far apart, and by the greatest there is, are as good as others.
func TestThreadsFarApart(t *testing.T) {
	all := threads()
	for i, thread := range all {
		other := all[(i+1)%len(all)]
		b := made(t, rising(2))
		if got, e := b.lock(thread, 0); !got || e != api.OK || b.l.Owner(0) != thread {
			t.Errorf("Lock(%d, 0): %t %d, Owner %d", thread, got, e, b.l.Owner(0))
		}
		if got, e := b.lock(other, 0); got || e != api.OK || b.l.Waits(other) != 0 {
			t.Errorf("Lock(%d, 0): %t %d, Waits %d", other, got, e, b.l.Waits(other))
		}
		b.run(thread, 3)
		b.check(all...)
		if woken, e := b.unlock(thread, 0); !slices.Equal(woken, []int{other}) || e != api.OK {
			t.Errorf("Unlock(%d, 0): %v %d", thread, woken, e)
		}
		b.check(all...)
	}
}

// P12.3: two that lock in opposite orders, and rings of up to six: the one whose rank would not rise is refused, and nobody waits for itself.
func TestNobodyWaitsForItself(t *testing.T) {
	for n := 2; n <= 6; n++ {
		b := made(t, rising(n))
		for m := range n {
			b.lock(m, m)
		}
		for m := range n {
			got, e := b.lock(m, (m+1)%n)
			if want := m == n-1; got || (e == api.ERANK) != want {
				t.Errorf("of %d: Lock(%d, %d): %t %d", n, m, (m+1)%n, got, e)
			}
			b.check()
		}
		for m := n - 1; m >= 0; m-- {
			b.leave(m)
			b.check()
		}
	}
}

// steps are all steps of these threads with these mutexes and one beside them on either side, and with some ticks.
func steps(threads []int, mutexes int, ticks ...int) []step {
	list := []step{}
	for _, thread := range threads {
		for m := -1; m <= mutexes; m++ {
			list = append(list, step{locking, thread, m}, step{unlocking, thread, m})
		}
		list = append(list, step{leaving, thread, 0})
		for _, x := range ticks {
			list = append(list, step{running, thread, x})
		}
	}
	return list
}

// played is what a row of steps leaves.
func played(t *testing.T, list []api.Mutex, row []step) both {
	t.Helper()
	b := made(t, list)
	for _, s := range row {
		b.do(s)
	}
	return b
}

// P12.1 to P12.3: of all that a few threads with a few mutexes can come to, each step that may be tried.
func TestAllThatCanBe(t *testing.T) {
	for _, c := range []struct {
		list    []api.Mutex
		threads []int
		most    int
	}{
		{[]api.Mutex{ranked(1, 2)}, []int{0, 1, 2, 3}, 2},
		{[]api.Mutex{ranked(1, 2), ranked(2, 1)}, []int{0, 5, 1 << 40}, 2},
		{[]api.Mutex{ranked(7, 2), ranked(7, 3)}, []int{0, 1, 2}, 2},
		{[]api.Mutex{ranked(3, 2), ranked(2, 2), ranked(1, 2)}, []int{2, 0, 9}, 0},
		{[]api.Mutex{ranked(1, 2), ranked(2, 2), ranked(1, 2)}, []int{1, 2, 3}, 0},
		{rising(2), []int{1, 2, 3, 4}, 0},
		{rising(4), []int{7, 3}, 0},
	} {
		all := steps(append(c.threads, -1), len(c.list))
		if c.most > 0 {
			all = steps(append(c.threads, -1), len(c.list), 1)
		}
		seen := map[string]struct{}{"": {}}
		for rows := [][]step{nil}; len(rows) > 0; rows = rows[1:] {
			for _, s := range all {
				b := played(t, c.list, rows[0])
				b.do(s)
				b.check(c.threads...)
				now := b.b.told()
				if _, ok := seen[now]; !ok && b.b.within(c.most) {
					seen[now] = struct{}{}
					rows = append(rows, append(slices.Clone(rows[0]), s))
				}
			}
		}
		if len(seen) < 20 {
			t.Errorf("of %v: %d in all", c.list, len(seen))
		}
	}
}

// within answers whether nothing is held for more than most ticks.
func (b *book) within(most int) bool {
	for _, h := range b.holds {
		if h.ticks > most {
			return false
		}
	}
	return true
}

// P12.1 to P12.3: all short plays of two threads with two mutexes, from the beginning on.
func TestAllShortPlays(t *testing.T) {
	for _, list := range [][]api.Mutex{{ranked(1, 1), ranked(2, 2)}, {ranked(2, 3), ranked(1, 1)}} {
		all := steps([]int{0, 1}, 1, 1)
		var next func(row []step)
		next = func(row []step) {
			played(t, list, row).check(0, 1)
			if len(row) < 4 {
				for _, s := range all {
					next(append(slices.Clone(row), s))
				}
			}
		}
		next(nil)
	}
}

// dice is a row of numbers by a simple rule, the same ones each time.
type dice uint64

func (d *dice) below(n int) int {
	*d = *d*6364136223846793005 + 1442695040888963407
	return int(uint64(*d)>>33) % n
}

// one answers one of these.
func (d *dice) one(of []int) int { return of[d.below(len(of))] }

// mutexes answers some, their ranks from few or from many.
func (d *dice) mutexes() []api.Mutex {
	list, spread := make([]api.Mutex, d.below(api.MaxMutexes+1)), 1+d.below(100)
	for i := range list {
		list[i] = ranked(1+d.below(spread), 1+d.below(1000))
	}
	return list
}

// step answers one that often does something: of threads of these, mutexes that there are, and the last one held.
func (d *dice) step(b both, of []int) step {
	s := step{d.below(4), d.one(of), d.below(len(b.b.mutexes)+2) - 1}
	held := b.b.held(s.thread)
	switch {
	case s.call == unlocking && len(held) > 0 && d.below(4) > 0:
		s.x = held[len(held)-1]
	case s.call == leaving && d.below(3) > 0:
		s.call = locking
	case s.call == running && d.below(10) == 0:
		s.x = d.one(spans())
	case d.below(40) == 0:
		s.x = d.one(strangers())
	}
	return s
}

// P12.1 to P12.3: long plays of twenty threads, of numbers near and far.
func TestLongPlays(t *testing.T) {
	d := dice(12)
	near := []int{}
	for thread := range api.MaxThreads {
		near = append(near, thread)
	}
	for play := range 120 {
		b := made(t, d.mutexes())
		of := near[:2+d.below(len(near)-1)]
		if play%3 == 0 {
			of = strangers()
		}
		for turn := range 400 {
			b.do(d.step(b, of))
			if turn%5 == 0 {
				b.check(of...)
			}
		}
	}
}

// Calls on many threads end in a time that the sizes explain, and tell all of them.
func TestManyThreads(t *testing.T) {
	const size = 1 << 17
	table, _ := rank.New(rising(6))
	l := New(table)
	want := []int{}
	for m := range 2 {
		l.Lock(m, m)
	}
	for i := range size {
		thread := 10 + (i*48271)%size
		if got, e := l.Lock(thread, i%2); got || e != api.OK || l.Waits(thread) != i%2 {
			t.Fatalf("Lock(%d, %d): %t %d", thread, i%2, got, e)
		}
		if i%2 == 0 {
			want = append(want, thread)
		}
	}
	// Who waits for another mutex costs those nothing who take and give back this one.
	for range size {
		l.Lock(5, 3)
		if woken, e := l.Unlock(5, 3); len(woken) != 0 || e != api.OK {
			t.Fatalf("Unlock(5, 3): %v %d", woken, e)
		}
	}
	slices.Sort(want)
	if woken, e := l.Unlock(0, 0); !slices.Equal(woken, want) || e != api.OK {
		t.Errorf("Unlock(0, 0): %d woken, not %d; %d", len(woken), len(want), e)
	}
	for range size {
		l.Lock(0, 0)
		l.Unlock(0, 0)
	}
	if woken := l.Leave(1); len(woken) != size/2 || !slices.IsSorted(woken) {
		t.Errorf("Leave(1): %d woken", len(woken))
	}
}

// What is kept does not grow by threads that hold nothing and wait for nothing any more.
func TestNothingIsKeptOfWhoIsDone(t *testing.T) {
	b := made(t, rising(3))
	for thread := range 1000 {
		for m := range 3 {
			b.lock(thread, m)
			b.lock(5000, m)
			b.run(thread, 1)
			b.leave(5000)
		}
		if thread%2 == 0 {
			b.leave(thread)
			continue
		}
		for m := 2; m >= 0; m-- {
			b.unlock(thread, m)
		}
	}
	if len(b.l.held) != 0 || len(b.l.waits) != 0 {
		t.Errorf("of %d it is kept what they hold, of %d what they wait for", len(b.l.held), len(b.l.waits))
	}
	for m, x := range b.l.mutexes {
		if len(x.waiting) != 0 {
			t.Errorf("of %d it is kept that they wait for %d", len(x.waiting), m)
		}
	}
}

// R3: calls of no locks.
func TestNil(t *testing.T) {
	var l *Locks
	for _, thread := range append(strangers(), 0, 1, 2) {
		for _, x := range append(noMutexes(0), 1, 2, 3) {
			if got, e := l.Lock(thread, x); got || e != api.ErrNil {
				t.Errorf("Lock(%d, %d): %t %d", thread, x, got, e)
			}
			if woken, e := l.Unlock(thread, x); woken != nil || e != api.ErrNil {
				t.Errorf("Unlock(%d, %d): %v %d", thread, x, woken, e)
			}
			l.Run(thread, x)
			if l.Over(thread, x) || l.Owner(x) != -1 {
				t.Errorf("Over(%d, %d): %t, Owner %d", thread, x, l.Over(thread, x), l.Owner(x))
			}
		}
		if len(l.Leave(thread)) != 0 || len(l.Held(thread)) != 0 || len(l.Owners()) != 0 || l.Waits(thread) != -1 {
			t.Errorf("of %d: Leave %v, Held %v, Owners %v, Waits %d", thread, l.Leave(thread), l.Held(thread), l.Owners(), l.Waits(thread))
		}
	}
}

// R4: the table that New was given is not changed by any call, so several locks may stand over one.
func TestTheTableIsNotChanged(t *testing.T) {
	d := dice(4)
	for _, list := range declared() {
		table, _ := rank.New(list)
		all := []both{{t, New(table), bookOf(list)}, {t, New(table), bookOf(list)}, {t, New(table), bookOf(list)}}
		for range 300 {
			b := all[d.below(len(all))]
			b.do(d.step(b, []int{0, 1, 2, 3, 4}))
			for _, b := range all {
				b.check(0, 1, 2, 3, 4)
			}
		}
		sum := 0
		for m, x := range list {
			if table.Len() != len(list) || table.Rank(m) != x.Rank || table.Limit(m) != x.Limit {
				t.Errorf("of %v: Len %d, Rank(%d) %d, Limit %d", list, table.Len(), m, table.Rank(m), table.Limit(m))
			}
			sum += x.Limit
		}
		if table.Sum(0) != sum {
			t.Errorf("of %v: Sum %d", list, table.Sum(0))
		}
	}
}

// R4: what is answered may be written over, with its spare room, without the locks being changed.
func TestAnswersMayBeWrittenOver(t *testing.T) {
	b := waiting(t, [][]int{{3, 1}, {8, 5}, {2}, {9}})
	b.lock(100, 3)
	b.leave(103)
	b.lock(101, 3)
	b.run(101, 4)
	spoil := func(list []int) {
		for i := range list[:cap(list)] {
			list[:cap(list)][i] = 4
		}
		b.check(1, 2, 3, 5, 8, 9, 100, 101, 102, 103)
	}
	for range 3 {
		for _, thread := range []int{100, 101, 102, 103, 1} {
			held := b.l.Held(thread)
			held = held[:cap(held)]
			for i := range held {
				held[i] = api.Held{Mutex: 2, Ticks: 99}
			}
		}
		spoil(b.l.Owners())
	}
	woken, _ := b.unlock(102, 2)
	spoil(woken)
	woken, _ = b.unlock(101, 3)
	spoil(woken)
	spoil(b.leave(101))
	spoil(b.leave(100))
	b.lock(8, 3)
	b.lock(102, 0)
	b.run(102, 2)
	b.check(8, 102)
}

// R4: what was answered is not changed by later calls, and no two answers share memory.
func TestAnswersStay(t *testing.T) {
	b := waiting(t, [][]int{{3, 1}, {8, 5}, {2, 30, 20}, {9}})
	b.lock(7, 2)
	lists, helds := [][]int{b.l.Owners(), b.l.Owners()}, [][]api.Held{b.l.Held(100), b.l.Held(100)}
	lists[1][2], helds[1][0].Ticks = 55, 55
	b.leave(103)
	b.lock(100, 3)
	helds = append(helds, b.l.Held(100), b.l.Held(100))
	woken, _ := b.unlock(100, 3)
	lists = append(lists, woken)
	woken, _ = b.unlock(102, 2)
	lists = append(lists, woken)
	lists = append(lists, b.leave(100), b.leave(101), b.l.Owners())
	was, were := [][]int{}, [][]api.Held{}
	for _, list := range lists {
		was = append(was, slices.Clone(list))
	}
	for _, held := range helds {
		were = append(were, slices.Clone(held))
	}
	for m := range 4 {
		b.lock(100, m)
		b.run(100, 3)
		b.lock(60+m, m)
	}
	b.leave(100)
	for m := range 4 {
		b.lock(102, m)
		b.lock(50+m, m)
		b.unlock(102, m)
	}
	for i, list := range lists {
		if !slices.Equal(list, was[i]) {
			t.Errorf("list %d became %v from %v", i, list, was[i])
		}
	}
	for i, held := range helds {
		if !slices.Equal(held, were[i]) {
			t.Errorf("Held %d became %v from %v", i, held, were[i])
		}
	}
	if !slices.Equal(lists[0], []int{100, 101, 102, 103}) || !slices.Equal(helds[0], []api.Held{{}}) {
		t.Errorf("Owners %v, Held %v", lists[0], helds[0])
	}
}

// R5: a call that is refused, and one that only tells, changes nothing that a later call tells: a play with many of them between its steps goes on as one without.
func TestRefusedCallsChangeNothing(t *testing.T) {
	d := dice(5)
	of := []int{0, 1, 2, 3, 4, 5}
	for range 150 {
		b := made(t, d.mutexes())
		for range 60 {
			b.do(d.step(b, of))
			for _, thread := range append(strangers(), of...) {
				for m := -1; m <= len(b.b.mutexes); m++ {
					b.refused(thread, m)
				}
			}
			b.check(of...)
		}
	}
}

// refused makes each call with a thread and a mutex that the book would refuse, of the locks alone.
func (b both) refused(thread int, m int) {
	b.t.Helper()
	want := b.b.may(thread, m)
	if b.b.waitsFor(thread) != -1 {
		want = api.ErrBusy
	}
	if thread < 0 {
		want = api.ErrArg
	}
	if want != api.OK {
		if got, e := b.l.Lock(thread, m); got || e != want {
			b.t.Fatalf("Lock(%d, %d): %t %d, not %d", thread, m, got, e, want)
		}
	}
	held := b.b.held(thread)
	if len(held) == 0 || held[len(held)-1] != m {
		if woken, e := b.l.Unlock(thread, m); woken != nil || e != api.EPERM {
			b.t.Fatalf("Unlock(%d, %d): %v %d", thread, m, woken, e)
		}
	}
	b.l.Over(thread, 1000)
	b.l.Run(thread, -5)
	b.l.Run(thread, 0)
}

// R5: locks stand apart: what is done with some changes nothing in others, and the same calls on two are answered alike.
func TestLocksStandApart(t *testing.T) {
	d := dice(6)
	of := []int{0, 1, 2, 3, 4}
	all := []both{}
	for _, list := range declared() {
		all = append(all, made(t, list), made(t, list))
	}
	for range 300 {
		i := d.below(len(all) / 2)
		s := d.step(all[2*i], of)
		all[2*i].do(s)
		all[2*i+1].do(s)
		for _, b := range all {
			b.owners()
		}
		all[2*i].check(of...)
		all[2*i+1].check(of...)
	}
	for _, b := range all {
		b.check(of...)
	}
}

// R5: New may be called from several goroutines at one time, over one table too, each working on its own locks.
func TestMadeAtOneTime(t *testing.T) {
	list := []api.Mutex{ranked(3, 40), ranked(1, 2), ranked(2, 9), ranked(2, 1)}
	table, _ := rank.New(list)
	var group sync.WaitGroup
	for worker := range 4 {
		group.Go(func() {
			d := dice(worker)
			for range 40 {
				b := both{t, New(table), bookOf(list)}
				for range 60 {
					s := d.step(b, []int{0, 1, 2, 3})
					got, want := b.answers(s)
					if !got.same(want) || b.l.Over(s.thread, 5) != b.b.over(s.thread, 5) || b.l.Waits(s.thread) != b.b.waitsFor(s.thread) {
						t.Errorf("of %v: %v, not %v", s, got, want)
					}
				}
			}
		})
	}
	group.Wait()
}
