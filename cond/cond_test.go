package cond_test

import (
	"errors"
	"maps"
	"math"
	"math/rand"
	"slices"
	"strconv"
	"sync"
	"testing"

	"coxswain/api"
	"coxswain/cond"
)

// The chapter's way: who is before whom comes in as a function value, and method values are handed in as it.
var (
	_ func(*cond.Conds, int, func(int, int) bool) (int, bool) = (*cond.Conds).Signal
	_ func(int, int) bool                                     = plain{}.falling
	_ func(int, int) bool                                     = (&witness{}).before
)

// mostConds is the greatest number of conditions, from the document.
const mostConds = 4

// book keeps where each thread waits, as the promise tells it: one that waits nowhere is not there.
type book struct {
	conds int
	where map[int]int
}

func bookOf(n int) *book { return &book{n, map[int]int{}} }

func (b *book) wait(thread int, i int) api.Errno {
	if thread < 0 || i < 0 || i >= b.conds {
		return api.ErrArg
	}
	if _, waits := b.where[thread]; waits {
		return api.ErrBusy
	}
	b.where[thread] = i
	return api.OK
}

func (b *book) cancel(thread int) bool {
	_, waits := b.where[thread]
	delete(b.where, thread)
	return waits
}

func (b *book) list(i int) []int {
	list := []int{}
	for thread, at := range b.where {
		if at == i {
			list = append(list, thread)
		}
	}
	slices.Sort(list)
	return list
}

func (b *book) of(thread int) int {
	if i, waits := b.where[thread]; waits {
		return i
	}
	return -1
}

// signal falls back on nobody unless somebody waits, and before is there or needn't be.
func (b *book) signal(i int, before func(int, int) bool) (int, bool) {
	list := b.list(i)
	if len(list) == 0 || before == nil && len(list) > 1 {
		return -1, false
	}
	place := 0
	for other := 1; other < len(list); other++ {
		if before(list[other], list[place]) {
			place = other
		}
	}
	delete(b.where, list[place])
	return list[place], true
}

// witness is asked who is before whom, and keeps about whom it was asked.
type witness struct {
	ask   func(int, int) bool
	asked [][2]int
}

func (w *witness) before(a int, b int) bool {
	w.asked = append(w.asked, [2]int{a, b})
	return w.ask(a, b)
}

// keys puts threads in an order: the greater key is before; of equal ones, and of strangers, none is.
type keys map[int]int

func (k keys) before(a int, b int) bool { return k[a] > k[b] }

// turns answers true each so many times, whoever is asked about.
type turns struct {
	every, asked int
}

func (t *turns) before(int, int) bool {
	t.asked++
	return t.asked%t.every == 0
}

// remainder puts threads by what is left of their numbers by a division: many are equal.
type remainder int

func (r remainder) before(a int, b int) bool { return a%int(r) < b%int(r) }

// ring is no order: of three threads in a row each is before the next one, the last one before the first one.
type ring int

func (r ring) before(a int, b int) bool { return (b-a)%int(r) == 1 || (a-b)%int(r) == int(r)-1 }

type plain struct{}

func (plain) rising(a int, b int) bool  { return a < b }
func (plain) falling(a int, b int) bool { return a > b }
func (plain) none(int, int) bool        { return false }
func (plain) each(int, int) bool        { return true }

// Who is before whom, made anew at each asking, since some keep how often they were asked; the first one is none.
var ways = []func() func(int, int) bool{
	func() func(int, int) bool { return nil },
	func() func(int, int) bool { return plain{}.rising },
	func() func(int, int) bool { return plain{}.falling },
	func() func(int, int) bool { return plain{}.none },
	func() func(int, int) bool { return plain{}.each },
	func() func(int, int) bool { return remainder(3).before },
	func() func(int, int) bool { return ring(3).before },
	func() func(int, int) bool { return (&turns{every: 2}).before },
	func() func(int, int) bool { return (&turns{every: 3}).before },
	func() func(int, int) bool { return keys{0: 3, 1: 9, 2: 5, 5: 9, 7: 4}.before },
}

// both is conditions and their book; each call is made of both.
type both struct {
	t *testing.T
	c *cond.Conds
	b *book
}

func made(t *testing.T, n int) both {
	t.Helper()
	c, e := cond.New(n)
	if e != api.OK || c == nil {
		t.Fatalf("New(%d): %d", n, e)
	}
	return both{t, c, bookOf(n)}
}

func (b both) wait(thread int, i int) api.Errno {
	b.t.Helper()
	got, want := b.c.Wait(thread, i), b.b.wait(thread, i)
	if got != want {
		b.t.Fatalf("Wait(%d, %d): %d, not %d; %v", thread, i, got, want, b.b.where)
	}
	return got
}

// waitAll lets these wait for i, in this order.
func (b both) waitAll(i int, threads ...int) {
	b.t.Helper()
	for _, thread := range threads {
		if e := b.wait(thread, i); e != api.OK {
			b.t.Fatalf("Wait(%d, %d): %d", thread, i, e)
		}
	}
}

// signal signals by a way, and holds about whom each was asked against one another.
func (b both) signal(i int, way func() func(int, int) bool) (int, bool) {
	b.t.Helper()
	// Ahead of the calls: Signal of the book changes it.
	list := b.b.list(i)
	var got, want int
	var gotOK, wantOK bool
	mine, its := witness{}, witness{}
	if mine.ask, its.ask = way(), way(); mine.ask == nil {
		got, gotOK = b.c.Signal(i, nil)
		want, wantOK = b.b.signal(i, nil)
	} else {
		got, gotOK = b.c.Signal(i, mine.before)
		want, wantOK = b.b.signal(i, its.before)
	}
	if got != want || gotOK != wantOK {
		b.t.Fatalf("Signal(%d) of %v: %d %t, not %d %t", i, list, got, gotOK, want, wantOK)
	}
	if !slices.Equal(mine.asked, its.asked) {
		b.t.Fatalf("Signal(%d) of %v: asked about %v, not %v", i, list, mine.asked, its.asked)
	}
	return got, gotOK
}

func (b both) cancel(thread int) bool {
	b.t.Helper()
	got, want := b.c.Cancel(thread), b.b.cancel(thread)
	if got != want {
		b.t.Fatalf("Cancel(%d): %t, not %t; %v", thread, got, want, b.b.where)
	}
	return got
}

// check asks of all conditions, of some that there are not, of all who wait and of these threads.
func (b both) check(threads ...int) {
	b.t.Helper()
	for i := -2; i < b.b.conds+3; i++ {
		if got, want := b.c.List(i), b.b.list(i); !slices.Equal(got, want) {
			b.t.Fatalf("List(%d): %v, not %v", i, got, want)
		}
	}
	for _, thread := range slices.AppendSeq(slices.Clone(threads), maps.Keys(b.b.where)) {
		if got, want := b.c.Of(thread), b.b.of(thread); got != want {
			b.t.Fatalf("Of(%d): %d, not %d", thread, got, want)
		}
	}
}

// threads are some of numbers far apart, and at the edges of all kinds of numbers; in no order.
func threads() []int {
	return []int{
		math.MaxInt, 5, 1<<32 + 5, 0, 1 << 40, 1<<40 + 1, 2, 1<<31 - 1, 1 << 31, 1, 19, 20, 1<<32 - 1, 1 << 32, 63, 64, 65, 255, 256,
		1 << 16, 1 << 62, math.MaxInt - 1, 1<<62 + 5, 1<<40 - 1, 7,
	}
}

// strangers are below 0: no thread's numbers.
func strangers() []int {
	return []int{-1, -2, -5, -64, -256, -1 << 31, -1<<31 - 1, -1 << 32, -1<<32 + 5, -1 << 40, -1 << 62, math.MinInt + 1, math.MinInt}
}

// noConds are no conditions' numbers, where there are n.
func noConds(n int) []int {
	return []int{
		n, n + 1, n + 2, -1, -2, -n, 64, 1 << 8, 1 << 16, 1 << 31, 1 << 32, 1<<32 + n - 1, 1 << 40, -1 << 32, -1<<32 + n - 1, 1 << 62, math.MaxInt - 1,
		math.MaxInt, math.MinInt, math.MinInt + 1,
	}
}

// orders goes over all orders of list.
func orders(list []int, do func(order []int)) {
	if len(list) == 0 {
		do(nil)
	}
	for i, x := range list {
		rest := slices.Delete(slices.Clone(list), i, i+1)
		orders(rest, func(order []int) { do(append([]int{x}, order...)) })
	}
}

// The chapter's example.
func TestExample(t *testing.T) {
	b := made(t, 1)
	if b.wait(5, 0) != api.OK || b.wait(2, 0) != api.OK {
		t.Error("Wait")
	}
	if got, ok := b.c.Signal(0, plain{}.falling); got != 5 || !ok {
		t.Errorf("Signal: %d %t", got, ok)
	}
	if b.c.Of(5) != -1 || b.c.Of(2) != 0 || !slices.Equal(b.c.List(0), []int{2}) {
		t.Errorf("then: %d, %d, %v", b.c.Of(5), b.c.Of(2), b.c.List(0))
	}
}

// P13.1: New of a number that is not from 1 to 4 is ErrArg, and there are no conditions.
func TestNewOfNumbersThatMayNotBe(t *testing.T) {
	if api.MaxConds != mostConds {
		t.Fatalf("MaxConds: %d", api.MaxConds)
	}
	for _, n := range []int{
		0, -1, -2, -3, -4, -5, mostConds + 1, mostConds + 2, 64, 256, 257, 1<<16 + 1, 1 << 31, 1<<32 + 1, 1<<32 + 4, 1 << 40, -1 << 32, -1<<32 + 1,
		math.MaxInt - 1, math.MaxInt, math.MinInt, math.MinInt + 1, math.MinInt + 4,
	} {
		if c, e := cond.New(n); c != nil || e != api.ErrArg {
			t.Errorf("New(%d): %v %d", n, c, e)
		}
	}
}

// P13.1: New of 1 to 4: that many conditions, for which nobody waits, and for each of which one may.
func TestNew(t *testing.T) {
	for n := 1; n <= mostConds; n++ {
		b := made(t, n)
		b.check(append(append(threads(), strangers()...), 3, 4)...)
		for i := range n {
			if e := b.wait(10-i, i); e != api.OK || b.c.Of(10-i) != i {
				t.Errorf("of %d: Wait(%d, %d): %d, Of %d", n, 10-i, i, e, b.c.Of(10-i))
			}
			b.check(threads()...)
		}
		if e := b.wait(20, n); e != api.ErrArg {
			t.Errorf("of %d: Wait(20, %d): %d", n, n, e)
		}
		if e := b.wait(20, -1); e != api.ErrArg {
			t.Errorf("of %d: Wait(20, -1): %d", n, e)
		}
		b.check(20)
	}
}

// P13.1: Wait of a thread below 0 is ErrArg, for a condition that there is, be it waited for or not, and for none.
func TestWaitOfThreadBelowNone(t *testing.T) {
	for n := 1; n <= mostConds; n++ {
		b := made(t, n)
		b.waitAll(0, 5, 1, math.MaxInt)
		for _, thread := range strangers() {
			for _, i := range append(noConds(n), 0, n-1) {
				if e := b.wait(thread, i); e != api.ErrArg {
					t.Errorf("of %d: Wait(%d, %d): %d", n, thread, i, e)
				}
			}
			b.check(thread)
		}
	}
}

// P13.1: Wait for a condition that there is none of, on either side, is ErrArg: of who waits nowhere, and of who waits, ahead of ErrBusy; who waits goes on waiting where it did.
func TestWaitForNoCondition(t *testing.T) {
	for n := 1; n <= mostConds; n++ {
		b := made(t, n)
		b.waitAll(0, 0, 8)
		b.waitAll(n-1, 1<<40, 3)
		for _, i := range noConds(n) {
			for _, thread := range []int{0, 8, 1 << 40, 3, 1, 2, 4, math.MaxInt, -1} {
				if e := b.wait(thread, i); e != api.ErrArg {
					t.Errorf("of %d: Wait(%d, %d): %d", n, thread, i, e)
				}
			}
			if list := b.c.List(i); len(list) != 0 {
				t.Errorf("of %d: List(%d): %v", n, i, list)
			}
			b.check(1, 2, 4, math.MaxInt, -1)
		}
	}
}

// P13.1: Wait of one that waits is ErrBusy, for the same condition and for each other one, however often, and it goes on waiting where it did; when it waits no more it may.
func TestWaitOfWhoWaits(t *testing.T) {
	for n := 1; n <= mostConds; n++ {
		for at := range n {
			for _, thread := range threads() {
				b := made(t, n)
				b.waitAll(at, thread, 6)
				b.waitAll((at+1)%n, 4)
				for range 2 {
					for i := range n {
						if e := b.wait(thread, i); e != api.ErrBusy || b.c.Of(thread) != at {
							t.Fatalf("of %d: Wait(%d, %d): %d, Of %d", n, thread, i, e, b.c.Of(thread))
						}
					}
				}
				b.check(thread)
				b.cancel(thread)
				b.check(thread)
				if e := b.wait(thread, (at+1)%n); e != api.OK || b.c.Of(thread) != (at+1)%n {
					t.Fatalf("of %d: Wait(%d, %d): %d, Of %d", n, thread, (at+1)%n, e, b.c.Of(thread))
				}
				b.check(thread)
			}
		}
	}
}

// P13.1: Wait of numbers far apart, of those alike in their lower bits too, and of the greatest there is: each waits where it did, whoever comes then.
func TestWaitOfNumbersFarApart(t *testing.T) {
	for n := 1; n <= mostConds; n++ {
		b := made(t, n)
		for k, thread := range threads() {
			if e := b.wait(thread, k%n); e != api.OK || b.c.Of(thread) != k%n {
				t.Errorf("of %d: Wait(%d, %d): %d, Of %d", n, thread, k%n, e, b.c.Of(thread))
			}
			b.check(append(threads(), strangers()...)...)
		}
	}
}

// P13.1: List tells who waits there, rising, in whatever order they came.
func TestListRises(t *testing.T) {
	list := []int{0, 3, 4, 1 << 33, math.MaxInt}
	orders(list, func(order []int) {
		b := made(t, 2)
		for k, thread := range order {
			b.waitAll(1, thread)
			want := slices.Sorted(slices.Values(order[:k+1]))
			if got := b.c.List(1); !slices.Equal(got, want) || len(b.c.List(0)) != 0 {
				t.Fatalf("List of %v: %v, %v", order[:k+1], got, b.c.List(0))
			}
		}
		b.check(1, 2)
	})
}

// P13.1: List of each condition tells those who wait there alone; of none, and of one that nobody waits for, it is empty.
func TestListOfEach(t *testing.T) {
	for n := 1; n <= mostConds; n++ {
		b := made(t, n)
		for i := range n {
			for k := range i + 1 {
				b.waitAll(i, 10*(n-i)+(7*k)%5)
			}
		}
		for i := range n {
			if got := b.c.List(i); len(got) != i+1 || got[0] != 10*(n-i) || !slices.IsSorted(got) {
				t.Errorf("of %d: List(%d): %v", n, i, got)
			}
		}
		for _, i := range noConds(n) {
			if i < 0 || i >= n {
				if got := b.c.List(i); len(got) != 0 {
					t.Errorf("of %d: List(%d): %v", n, i, got)
				}
			}
		}
		for thread := range 60 {
			b.cancel(thread)
		}
		for i := range n {
			if got := b.c.List(i); len(got) != 0 {
				t.Errorf("of %d: List(%d): %v", n, i, got)
			}
		}
	}
}

// P13.1: Of who waits is where, of all others -1: of who waited, who was signalled, strangers, neighbours of those who wait.
func TestOf(t *testing.T) {
	b := made(t, 4)
	for k, thread := range threads() {
		if got := b.c.Of(thread); got != -1 {
			t.Errorf("Of(%d): %d", thread, got)
		}
		b.waitAll(k%4, thread)
		if got := b.c.Of(thread); got != k%4 {
			t.Errorf("Of(%d): %d, not %d", thread, got, k%4)
		}
	}
	for _, thread := range append(strangers(), 3, 4, 6, 8, 18, 21, 62, 66, 1<<40+2, 1<<32+1, 1<<32+2, math.MaxInt-2) {
		if got := b.c.Of(thread); got != -1 {
			t.Errorf("Of(%d): %d", thread, got)
		}
	}
	for k, thread := range threads() {
		if k%2 == 0 {
			b.cancel(thread)
			if got := b.c.Of(thread); got != -1 {
				t.Errorf("Of(%d) behind Cancel: %d", thread, got)
			}
		} else if thread, ok := b.signal(k%4, ways[2]); ok && b.c.Of(thread) != -1 {
			t.Errorf("Of(%d) behind Signal: %d", thread, b.c.Of(thread))
		}
		b.check(threads()...)
	}
}

// P13.1: Cancel tells whether one waited, and it waits no more: once, wherever it stands, be it the first, the last, in the midst, or alone.
func TestCancel(t *testing.T) {
	list := []int{2, 5, 9, 1 << 40, math.MaxInt}
	for size := 1; size <= len(list); size++ {
		for k := range size {
			for i := range 4 {
				b := made(t, 4)
				b.waitAll(i, list[:size]...)
				b.waitAll((i+1)%4, 3, 1<<41)
				if !b.cancel(list[k]) || b.cancel(list[k]) || b.c.Of(list[k]) != -1 {
					t.Errorf("Cancel(%d) of %v: Of %d", list[k], list[:size], b.c.Of(list[k]))
				}
				want := slices.Delete(slices.Clone(list[:size]), k, k+1)
				if got := b.c.List(i); !slices.Equal(got, want) {
					t.Errorf("Cancel(%d) of %v: then %v", list[k], list[:size], got)
				}
				b.check(list...)
				if e := b.wait(list[k], i); e != api.OK {
					t.Errorf("Wait(%d, %d): %d", list[k], i, e)
				}
				b.check(list...)
			}
		}
	}
}

// P13.1: Cancel of strangers, of who never waited, of who was signalled: false, and nothing changes.
func TestCancelOfStrangers(t *testing.T) {
	for n := 1; n <= mostConds; n++ {
		b := made(t, n)
		for _, thread := range append(strangers(), threads()...) {
			if b.cancel(thread) {
				t.Errorf("Cancel(%d) of nobody", thread)
			}
		}
		b.waitAll(0, 6, 1<<20)
		b.waitAll(n-1, 1<<50, 8)
		b.signal(0, ways[1])
		for _, thread := range append(append(strangers(), threads()...), 6) {
			if b.cancel(thread) {
				t.Errorf("Cancel(%d) of a stranger", thread)
			}
			b.check(thread)
		}
	}
}

// P13.1: Signal where nobody waits, and where there is no condition, is -1 and false, with each way and without one; nobody is asked about, and nothing changes.
func TestSignalOfNobody(t *testing.T) {
	for n := 1; n <= mostConds; n++ {
		for _, others := range [][]int{nil, {4}, {9, 4, 7}} {
			b := made(t, n)
			// One that waited there, and waits no more.
			b.waitAll(0, 3)
			b.cancel(3)
			if n > 1 {
				b.waitAll(n-1, others...)
			}
			for _, way := range ways {
				for _, i := range append(noConds(n), 0) {
					if i >= 0 && i < n && len(b.b.list(i)) > 0 {
						continue
					}
					if got, ok := b.signal(i, way); got != -1 || ok {
						t.Errorf("of %d: Signal(%d): %d %t", n, i, got, ok)
					}
				}
			}
			b.check(3, 4, 7, 9)
		}
	}
}

// P13.1: Signal of one alone: that one, with each way and without one; it is not asked about, not even by one that would panic.
func TestSignalOfOneAlone(t *testing.T) {
	asks := func() func(int, int) bool {
		return func(a int, b int) bool {
			t.Errorf("asked about %d and %d", a, b)
			panic("asked")
		}
	}
	for _, thread := range threads() {
		for i := range 4 {
			for _, way := range append(slices.Clone(ways), asks) {
				b := made(t, 4)
				b.waitAll(i, thread)
				b.waitAll((i+2)%4, 3, 4)
				if got, ok := b.signal(i, way); got != thread || !ok || b.c.Of(thread) != -1 || len(b.c.List(i)) != 0 {
					t.Errorf("Signal(%d) of %d alone: %d %t; then %v", i, thread, got, ok, b.c.List(i))
				}
				b.check(thread)
				if got, ok := b.signal(i, way); got != -1 || ok {
					t.Errorf("Signal(%d) again: %d %t", i, got, ok)
				}
			}
		}
	}
}

// P13.1: Signal of several without a way to tell is -1 and false, and all go on waiting; with a way then, it is as if it had not been.
func TestSignalOfSeveralWithoutWay(t *testing.T) {
	for _, list := range [][]int{{0, 1}, {7, 3}, {5, 1 << 40, 2}, threads()} {
		for i := range 4 {
			b := made(t, 4)
			b.waitAll(i, list...)
			for range 3 {
				if got, ok := b.signal(i, ways[0]); got != -1 || ok {
					t.Errorf("Signal(%d) of %v: %d %t", i, list, got, ok)
				}
				b.check(list...)
			}
			want := slices.Max(list)
			if got, ok := b.signal(i, ways[2]); got != want || !ok {
				t.Errorf("Signal(%d) of %v: %d %t, not %d", i, list, got, ok, want)
			}
			b.check(list...)
		}
	}
}

// P13.1: Signal of several till nobody waits: by rising numbers the least, by falling ones the greatest, where none is before any other the first one, where each is before each other the last one; without a way the last one left alone.
func TestSignalOfSeveral(t *testing.T) {
	list := []int{1, 4, 6, 1 << 33, math.MaxInt}
	up, down := slices.Clone(list), slices.Clone(list)
	slices.Reverse(down)
	for _, c := range []struct {
		way  func(int, int) bool
		want []int
	}{
		{plain{}.rising, up}, {plain{}.falling, down}, {plain{}.none, up}, {plain{}.each, down},
		{keys{1: 5, 4: 1, 6: 9, 1 << 33: 2, math.MaxInt: 7}.before, []int{6, math.MaxInt, 1, 1 << 33, 4}},
		{keys{1: 2, 4: 3, 6: 3, 1 << 33: 2, math.MaxInt: 3}.before, []int{4, 6, math.MaxInt, 1, 1 << 33}},
	} {
		orders(list, func(order []int) {
			b := made(t, 3)
			b.waitAll(2, order...)
			b.waitAll(0, 5, 2)
			for k, want := range c.want {
				way := c.way
				if k == len(list)-1 {
					way = nil
				}
				got, ok := b.signal(2, func() func(int, int) bool { return way })
				if got != want || !ok || b.c.Of(got) != -1 {
					t.Fatalf("Signal of %v: %d %t, not %d", order, got, ok, want)
				}
				b.check(list...)
			}
			if got, ok := b.signal(2, ways[2]); got != -1 || ok {
				t.Fatalf("Signal of nobody: %d %t", got, ok)
			}
		})
	}
}

// relation says of each two of a list of threads whether the one is before the other: a bit for each.
type relation struct {
	list []int
	bits int
}

func (r relation) before(a int, b int) bool {
	i, k := slices.Index(r.list, a), slices.Index(r.list, b)
	if i < 0 || k < 0 || i == k {
		panic("asked about " + strconv.Itoa(a) + " and " + strconv.Itoa(b))
	}
	if k > i {
		k--
	}
	return r.bits>>(i*(len(r.list)-1)+k)&1 == 1
}

// P13.1: Signal by each way in which one of up to four may be before another one, most of which are no order.
func TestSignalByAllRelations(t *testing.T) {
	for _, list := range [][]int{{3, 8}, {0, 1, 2}, {2, 5, 1 << 40}, {4, 6, 7, 1 << 62}} {
		for bits := range 1 << (len(list) * (len(list) - 1)) {
			r := relation{list, bits}
			b := made(t, 1)
			// They come in another order than they are asked about.
			for k := range list {
				b.waitAll(0, list[(k+bits)%len(list)])
			}
			for range list {
				b.signal(0, func() func(int, int) bool { return r.before })
				b.check(list...)
			}
		}
	}
}

// P13.1: about whom is asked, beside whom, in which order: each one from the second on, beside who is the first so far, once.
func TestWhoIsAskedAbout(t *testing.T) {
	for _, c := range []struct {
		way   func(int, int) bool
		who   int
		asked [][2]int
	}{
		{plain{}.none, 1, [][2]int{{3, 1}, {6, 1}, {8, 1}}},
		{plain{}.rising, 1, [][2]int{{3, 1}, {6, 1}, {8, 1}}},
		{plain{}.each, 8, [][2]int{{3, 1}, {6, 3}, {8, 6}}},
		{plain{}.falling, 8, [][2]int{{3, 1}, {6, 3}, {8, 6}}},
		{keys{6: 1}.before, 6, [][2]int{{3, 1}, {6, 1}, {8, 6}}},
		{keys{3: 1}.before, 3, [][2]int{{3, 1}, {6, 3}, {8, 3}}},
		{keys{3: 1, 8: 2}.before, 8, [][2]int{{3, 1}, {6, 3}, {8, 3}}},
	} {
		orders([]int{1, 3, 6, 8}, func(order []int) {
			b, w := made(t, 2), witness{ask: c.way}
			b.waitAll(1, order...)
			b.waitAll(0, 2, 7)
			if got, ok := b.c.Signal(1, w.before); got != c.who || !ok || !slices.Equal(w.asked, c.asked) {
				t.Errorf("Signal of %v: %d %t, not %d, asked about %v, not %v", order, got, ok, c.who, w.asked, c.asked)
			}
		})
	}
}

// P13.1: of each order of six threads who is signalled is the one that no other one is before, till nobody is left.
func TestSignalByAllOrders(t *testing.T) {
	list := []int{0, 2, 3, 7, 1 << 35, math.MaxInt - 1}
	orders(list, func(order []int) {
		k := keys{}
		for place, thread := range order {
			k[thread] = len(order) - place
		}
		b := made(t, 1)
		b.waitAll(0, list...)
		for _, want := range order {
			if got, ok := b.c.Signal(0, k.before); got != want || !ok {
				t.Fatalf("Signal, the order being %v: %d %t, not %d", order, got, ok, want)
			}
		}
	})
}

// P13.1: who was signalled waits no more and may wait anew, there or elsewhere; the others go on waiting in their places.
func TestWhoWasSignalledMayWaitAnew(t *testing.T) {
	for _, way := range ways[1:] {
		for again := range 3 {
			b := made(t, 3)
			b.waitAll(1, 7, 2, 5, 9)
			b.waitAll(2, 1, 8)
			for range 6 {
				got, ok := b.signal(1, way)
				if !ok || b.c.Of(got) != -1 || b.cancel(got) {
					t.Fatalf("Signal: %d %t", got, ok)
				}
				b.check(got)
				if e := b.wait(got, again); e != api.OK || b.c.Of(got) != again {
					t.Fatalf("Wait(%d, %d): %d, Of %d", got, again, e, b.c.Of(got))
				}
				b.check(got)
				if again != 1 && len(b.b.list(1)) == 0 {
					break
				}
			}
		}
	}
}

// P13.1, R4: of each condition, signals and cancels change nothing of another one's, of other conditions of the same object or of another one.
func TestConditionsApart(t *testing.T) {
	for n := 2; n <= mostConds; n++ {
		for i := range n {
			b, other := made(t, n), made(t, n)
			for k := range n {
				b.waitAll(k, 30-k, k, 10+k)
				other.waitAll(n-1-k, 30-k, k, 10+k)
			}
			b.signal(i, ways[2])
			b.check()
			other.check()
			b.cancel(i)
			b.check()
			other.check()
			b.signal(i, ways[0])
			b.signal(i, ways[0])
			b.waitAll(i, 100, 99)
			b.check(i, 30-i, 10+i)
			other.check(99, 100)
			for k := range n {
				if want := 3; k != i && len(b.c.List(k)) != want {
					t.Errorf("of %d: List(%d) behind Signal(%d): %v", n, k, i, b.c.List(k))
				}
			}
		}
	}
}

// faults are ways that panic: at the first thing that they are asked, or at a later one.
func faults(at int) []func() func(int, int) bool {
	list := []func() func(int, int) bool{}
	for _, what := range []any{"a text", 7, errors.New("an error"), nil} {
		list = append(list, func() func(int, int) bool {
			asked := 0
			return func(a int, b int) bool {
				if asked++; asked > at {
					panic(what)
				}
				return a > b
			}
		})
	}
	return append(list, func() func(int, int) bool {
		answers := make([]bool, at)
		asked := -1
		return func(int, int) bool {
			asked++
			return answers[asked]
		}
	})
}

// R1: Signal does not panic if its way does, at the first thing asked or a later one: -1 and false, and all go on waiting.
func TestSignalByWayThatPanics(t *testing.T) {
	for at := range 4 {
		for _, fault := range faults(at) {
			b := made(t, 2)
			b.waitAll(1, 6, 2, 4, 9, 1)
			b.waitAll(0, 3, 5)
			for range 2 {
				if got, ok := b.c.Signal(1, fault()); got != -1 || ok {
					t.Errorf("Signal: %d %t", got, ok)
				}
				b.check(1, 2, 4, 6, 9)
			}
			b.signal(1, ways[2])
			b.signal(0, ways[1])
			b.check(1, 2, 4, 6, 9)
		}
	}
}

// R3: of no conditions Wait is ErrNil, whatever the arguments, Signal -1 and false, with nobody asked about, Cancel false, List empty, Of -1.
func TestNoConditions(t *testing.T) {
	var c *cond.Conds
	numbers := append(append(append(strangers(), threads()...), noConds(1)...), 3, 4)
	for _, x := range numbers {
		for _, y := range numbers {
			if e := c.Wait(x, y); e != api.ErrNil {
				t.Errorf("Wait(%d, %d): %d", x, y, e)
			}
		}
		for _, way := range ways {
			w := witness{ask: way()}
			if got, ok := c.Signal(x, w.before); got != -1 || ok || len(w.asked) != 0 {
				t.Errorf("Signal(%d): %d %t, asked about %v", x, got, ok, w.asked)
			}
		}
		if got, ok := c.Signal(x, nil); got != -1 || ok {
			t.Errorf("Signal(%d): %d %t", x, got, ok)
		}
		if c.Cancel(x) || len(c.List(x)) != 0 || c.Of(x) != -1 {
			t.Errorf("Cancel(%d): %t, List %v, Of %d", x, c.Cancel(x), c.List(x), c.Of(x))
		}
	}
}

// R4: writing over what List answers, its spare room too, changes nothing of what is kept, nor of another answer.
func TestAnswersWrittenOver(t *testing.T) {
	for size := range 9 {
		b := made(t, 2)
		for k := range size {
			b.waitAll(0, 9*k%10)
			b.waitAll(1, 20+k)
		}
		// So that room is spare where somebody stood.
		b.cancel(0)
		b.cancel(20)
		for i := range 2 {
			kept, list := b.c.List(i), b.c.List(i)
			want := slices.Clone(kept)
			whole := list[:cap(list)]
			for k := range whole {
				whole[k] = 77
			}
			_ = append(list, 78, 79)
			if !slices.Equal(kept, want) {
				t.Errorf("List(%d): %v became %v", i, want, kept)
			}
			b.check(77, 78, 79)
			b.waitAll(i, 15+i)
			b.check(77, 78, 79)
			b.signal(i, ways[1])
			b.check(77, 78, 79)
		}
	}
}

// R4: what List answered is not changed by later calls, nor grows their answers into it.
func TestAnswersStay(t *testing.T) {
	for size := range 9 {
		b := made(t, 2)
		for k := range size {
			b.waitAll(0, 2*(7*k%9)+1)
		}
		was := b.c.List(0)
		want := slices.Clone(was)
		room := slices.Clone(was[:cap(was)])
		for _, do := range []func(){
			func() { b.waitAll(0, 0, 8, 100) }, func() { b.cancel(1) }, func() { b.signal(0, ways[2]) }, func() { b.signal(0, ways[1]) },
			func() { b.waitAll(1, 3000, 2000) }, func() { b.waitAll(0, 6, 4) }, func() { b.cancel(8); b.cancel(4) },
		} {
			do()
			if !slices.Equal(was, want) || !slices.Equal(was[:cap(was)], room) {
				t.Errorf("List: %v became %v", room, was[:cap(was)])
			}
			b.check(was...)
		}
	}
}

// marks is a way whose receiver is a slice: a thread that stands earlier in it is before.
type marks []int

func (m marks) before(a int, b int) bool { return slices.Index(m, a) < slices.Index(m, b) }

// R4: what a way leans on is not changed by Signal, its spare room neither.
func TestWayStays(t *testing.T) {
	room := []int{7, 2, 9, 4, 1, 3, 8}
	m := marks(room[:4])
	b := made(t, 1)
	b.waitAll(0, 2, 4, 7, 9)
	for range 4 {
		b.signal(0, func() func(int, int) bool { return m.before })
	}
	if !slices.Equal(room, []int{7, 2, 9, 4, 1, 3, 8}) {
		t.Errorf("it became %v", room)
	}
}

// R5: a way is not kept: each Signal goes by the one that it is handed.
func TestWayIsNotKept(t *testing.T) {
	b := made(t, 1)
	b.waitAll(0, 1, 2, 3, 4, 5, 6)
	for _, c := range []struct{ way, want int }{{2, 6}, {1, 1}, {0, -1}, {4, 5}, {3, 2}, {0, -1}, {2, 4}, {0, 3}, {0, -1}} {
		if got, _ := b.signal(0, ways[c.way]); got != c.want {
			t.Errorf("Signal: %d, not %d", got, c.want)
		}
	}
}

// step is a call that changes something.
type step struct {
	call, thread, i, way int
}

const (
	waiting = iota
	signalling
	cancelling
)

func (b both) do(s step) {
	b.t.Helper()
	switch s.call {
	case waiting:
		b.wait(s.thread, s.i)
	case signalling:
		b.signal(s.i, ways[s.way])
	case cancelling:
		b.cancel(s.thread)
	}
}

// stepsOf are all steps of these threads, for conditions from -1 to n, by each way.
func stepsOf(list []int, n int) []step {
	steps := []step{}
	for i := -1; i <= n; i++ {
		for _, thread := range list {
			steps = append(steps, step{waiting, thread, i, 0})
		}
		for way := range ways {
			steps = append(steps, step{signalling, 0, i, way})
		}
	}
	for _, thread := range list {
		steps = append(steps, step{cancelling, thread, 0, 0})
	}
	return steps
}

// P13.1: each step that may be tried of each way in which four threads may wait for three conditions, or nowhere, and what is told then.
func TestEachStepOfAll(t *testing.T) {
	list := []int{0, 3, 5, 1 << 40}
	steps := stepsOf(append(list, -1, 4), 3)
	for code := range 256 {
		for _, s := range steps {
			b := made(t, 3)
			for k := range list {
				// Every other one comes in falling order.
				place := k
				if code%2 == 1 {
					place = len(list) - 1 - k
				}
				if i := code >> (2 * place) & 3; i < 3 {
					b.waitAll(i, list[place])
				}
			}
			b.do(s)
			b.check(-1, 0, 3, 4, 5, 1<<40)
		}
	}
}

// P13.1: all plays of four calls of three threads at two conditions.
func TestShortPlays(t *testing.T) {
	steps := []step{}
	for i := range 2 {
		for thread := range 3 {
			steps = append(steps, step{waiting, thread, i, 0})
		}
		for way := range 3 {
			steps = append(steps, step{signalling, 0, i, way})
		}
	}
	for thread := range 3 {
		steps = append(steps, step{cancelling, thread, 0, 0})
	}
	count := len(steps)
	for play := range count * count * count * count {
		b := made(t, 2)
		for range 4 {
			b.do(steps[play%count])
			play /= count
		}
		b.check(0, 1, 2)
	}
}

// P13.1: long plays of twenty threads at each number of conditions, and of strange numbers.
func TestLongPlays(t *testing.T) {
	twenty := []int{}
	for thread := range 20 {
		twenty = append(twenty, thread)
	}
	for seed, list := range [][]int{twenty, append(threads(), strangers()...)} {
		for n := 1; n <= mostConds; n++ {
			r := rand.New(rand.NewSource(int64(10*seed + n)))
			b := made(t, n)
			for range 20000 {
				s := step{waiting, list[r.Intn(len(list))], r.Intn(n+2) - 1, 0}
				switch r.Intn(5) {
				case 0:
					s.call = cancelling
				case 1:
					s.call, s.way = signalling, r.Intn(len(ways))
				}
				b.do(s)
				b.check(s.thread)
			}
		}
	}
}

// P13.1: a great number of threads, which come in no order: they are told rising, and signalled by their keys.
func TestManyThreads(t *testing.T) {
	const many = 3000
	r := rand.New(rand.NewSource(13))
	k, want := keys{}, make([]int, many)
	for place, thread := range r.Perm(many) {
		want[place] = 1000003 * thread
		k[1000003*thread] = many - place
	}
	b := made(t, 4)
	for _, thread := range r.Perm(many) {
		b.waitAll(2, 1000003*thread)
	}
	b.check()
	for place, thread := range want {
		if got, ok := b.c.Signal(2, k.before); got != thread || !ok {
			t.Fatalf("Signal of the %dth: %d %t, not %d", place, got, ok, thread)
		}
	}
	if got := b.c.List(2); len(got) != 0 {
		t.Errorf("List: %v", got)
	}
}

// R5: New may be called from several goroutines, and conditions of one know nothing of those of another one.
func TestSeveralGoroutines(t *testing.T) {
	var group sync.WaitGroup
	for n := range 16 {
		group.Go(func() {
			c, e := cond.New(n%mostConds + 1)
			if e != api.OK {
				t.Errorf("New: %d", e)
				return
			}
			for thread := range 100 {
				c.Wait(n+thread*(n+1), n%mostConds)
			}
			for place := range 100 {
				way := plain{}.falling
				if got, ok := c.Signal(n%mostConds, way); got != n+(99-place)*(n+1) || !ok {
					t.Errorf("Signal: %d %t", got, ok)
				}
			}
		})
	}
	group.Wait()
}
