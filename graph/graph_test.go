package graph

import (
	"math"
	"slices"
	"sync"
	"testing"

	"coxswain/api"
	"coxswain/prio"
)

// The chapter's way: what is done along a chain comes in as a function value.
var _ func(n net, i int, do func(k int) bool) = net.along

// links keeps for whom each one waits as the chapter's words tell it: who waits for nobody is not there.
type links map[int]int

func linksOf(waits []int, owners []int, threads int) links {
	holders := map[int]int{}
	for m, owner := range owners {
		if owner >= 0 && owner < threads {
			holders[m] = owner
		}
	}
	l := links{}
	for i, m := range waits {
		if holder, ok := holders[m]; ok && i < threads {
			l[i] = holder
		}
	}
	return l
}

func (l links) on(i int) int {
	if k, ok := l[i]; ok {
		return k
	}
	return -1
}

func (l links) chain(i int) []int {
	list := []int{}
	for k := l.on(i); k != -1 && !slices.Contains(list, k); k = l.on(k) {
		list = append(list, k)
	}
	return list
}

// whoWaits are those who wait for k, by however many, rising: whoever waits for it, and whoever waits for one of those.
func (l links) whoWaits(k int) []int {
	list := []int{}
	for grown := true; grown; {
		grown = false
		for i, on := range l {
			if !slices.Contains(list, i) && (on == k || slices.Contains(list, on)) {
				list = append(list, i)
				grown = true
			}
		}
	}
	slices.Sort(list)
	return list
}

func (l links) acyclic() bool {
	for k := range l {
		if slices.Contains(l.whoWaits(k), k) {
			return false
		}
	}
	return true
}

func (l links) effective(base []api.Prio) []api.Prio {
	list := []api.Prio{}
	for k, greatest := range base {
		for _, i := range l.whoWaits(k) {
			if prio.Compare(base[i], greatest) > 0 {
				greatest = base[i]
			}
		}
		list = append(list, greatest)
	}
	return list
}

// put is what is handed in, and the links that it tells; each question is asked of both.
type put struct {
	t       *testing.T
	waits   []int
	owners  []int
	threads int
	links   links
}

func of(t *testing.T, waits []int, owners []int, threads int) put {
	return put{t, waits, owners, threads, linksOf(waits, owners, threads)}
}

// one asks what is told of i.
func (p put) one(i int) {
	p.t.Helper()
	if got, want := On(p.waits, p.owners, p.threads, i), p.links.on(i); got != want {
		p.t.Fatalf("On(%v, %v, %d, %d): %d, not %d", p.waits, p.owners, p.threads, i, got, want)
	}
	if got, want := Chain(p.waits, p.owners, p.threads, i), p.links.chain(i); !slices.Equal(got, want) {
		p.t.Fatalf("Chain(%v, %v, %d, %d): %v, not %v", p.waits, p.owners, p.threads, i, got, want)
	}
}

func (p put) acyclic() {
	p.t.Helper()
	if got, want := Acyclic(p.waits, p.owners, p.threads), p.links.acyclic(); got != want {
		p.t.Fatalf("Acyclic(%v, %v, %d): %t, not %t", p.waits, p.owners, p.threads, got, want)
	}
}

// all asks of each thread of a few, of those beside them and of strangers.
func (p put) all() {
	p.t.Helper()
	p.acyclic()
	for i := -2; i < len(p.waits)+len(p.owners)+3; i++ {
		p.one(i)
	}
	for _, i := range strangers() {
		p.one(i)
	}
}

// lends asks what each thread of base has, and holds that against P11.3 too.
func lends(t *testing.T, base []api.Prio, waits []int, owners []int) {
	t.Helper()
	l := linksOf(waits, owners, len(base))
	got, want := Effective(base, waits, owners), l.effective(base)
	if !slices.Equal(got, want) {
		t.Fatalf("Effective(%v, %v, %v): %v, not %v", base, waits, owners, got, want)
	}
	settled(t, base, l, got)
}

// settled holds P11.3 of what was answered: each has its own base, or what somebody who waits for it has, and not less than any of these.
func settled(t *testing.T, base []api.Prio, l links, got []api.Prio) {
	t.Helper()
	for k := range base {
		from := got[k] == base[k]
		if prio.Compare(got[k], base[k]) < 0 {
			t.Fatalf("of %v, %v: %d has %v, less than its base", base, l, k, got[k])
		}
		for _, i := range l.whoWaits(k) {
			from = from || got[i] == got[k]
			if prio.Compare(got[k], got[i]) < 0 {
				t.Fatalf("of %v, %v: %d has %v, less than %d, who waits for it: %v", base, l, k, got[k], i, got[i])
			}
		}
		if !from {
			t.Fatalf("of %v, %v: %d has %v, which nobody has who waits for it", base, l, k, got[k])
		}
	}
}

// strangers are numbers that are no thread's and no mutex' among a few: the least and the greatest, and those that would be one if their higher bits or their sign were lost.
func strangers() []int {
	return []int{
		math.MinInt, math.MinInt + 1, math.MinInt + 2, math.MinInt32, -1 << 32, -1<<32 + 1, -1 << 16, -1<<16 + 2, -256, -255, -3, -2, -1,
		255, 256, 257, 1 << 16, 1<<16 + 1, 1 << 32, 1<<32 + 1, 1<<32 + 2, 1 << 62, 1<<62 + 1, math.MaxInt32, math.MaxInt - 2, math.MaxInt - 1, math.MaxInt,
	}
}

// lists calls do with each list of up to length of these numbers.
func lists(length int, of []int, do func(list []int)) {
	var next func(list []int)
	next = func(list []int) {
		do(list)
		if len(list) < length {
			for _, x := range of {
				next(append(slices.Clone(list), x))
			}
		}
	}
	next(nil)
}

// nets calls do with waits and owners of each way in which n threads may wait for one another; thread k's mutex is another number than k.
func nets(n int, do func(waits []int, owners []int)) {
	owners := make([]int, n)
	for m := range owners {
		owners[m] = (m + 1) % n
	}
	numbers := []int{-1}
	for m := range n {
		numbers = append(numbers, m)
	}
	lists(n, numbers, func(waits []int) {
		if len(waits) == n {
			do(waits, owners)
		}
	})
}

// row is a chain 0, 1, .. of n threads, each of whom waits for the next one; the last one waits for mutex last.
func row(n int, last int) (waits []int, owners []int) {
	for i := range n {
		waits = append(waits, i)
		owners = append(owners, i+1)
	}
	if n > 0 {
		waits[n-1] = last
		owners = owners[:n-1]
	}
	return waits, owners
}

// ring is a row of tail threads into a ring of n.
func ring(tail int, n int) (waits []int, owners []int) {
	for i := range tail + n {
		waits = append(waits, i)
		owners = append(owners, i+1)
	}
	owners[tail+n-1] = tail
	return waits, owners
}

func fixed(level int) api.Prio { return api.Prio{Class: api.Fixed, Level: level} }

func best(level int) api.Prio { return api.Prio{Class: api.Best, Level: level} }

func early(due int) api.Prio { return api.Prio{Class: api.Early, Due: due} }

// P11.1, P11.2: the document's example.
func TestExample(t *testing.T) {
	base, waits, owners := []api.Prio{fixed(3), best(2), best(9)}, []int{0, 1}, []int{1, 2}
	if got := Effective(base, waits, owners); !slices.Equal(got, []api.Prio{fixed(3), fixed(3), fixed(3)}) {
		t.Errorf("Effective: %v", got)
	}
	if got := Chain(waits, owners, 3, 0); !slices.Equal(got, []int{1, 2}) {
		t.Errorf("Chain: %v", got)
	}
	if !Acyclic(waits, owners, 3) || On(waits, owners, 3, 0) != 1 || On(waits, owners, 3, 1) != 2 || On(waits, owners, 3, 2) != -1 {
		t.Error("Acyclic, On")
	}
	of(t, waits, owners, 3).all()
	lends(t, base, waits, owners)
}

// P11.1: all lists of up to three with each count of threads, fewer than none too: lists that are shorter and longer than there are threads, numbers just below and just past.
func TestAllLists(t *testing.T) {
	numbers := []int{-1, 0, 1, 2, 3}
	lists(3, numbers, func(waits []int) {
		lists(3, numbers, func(owners []int) {
			for threads := -1; threads <= 4; threads++ {
				p := of(t, waits, owners, threads)
				p.acyclic()
				for i := -1; i <= 4; i++ {
					p.one(i)
				}
			}
		})
	})
}

// P11.1, P11.2: all ways in which up to five threads may wait for one another, with bases that fall, rise, are equal and mixed.
func TestAllNets(t *testing.T) {
	mixed := []api.Prio{best(4), fixed(7), early(9), early(2), fixed(7)}
	for n := 1; n <= 5; n++ {
		falling, rising, equal := []api.Prio{}, []api.Prio{}, []api.Prio{}
		for i := range n {
			falling = append(falling, fixed(20-i))
			rising = append(rising, early(20-i))
			equal = append(equal, api.Prio{Class: api.Early, Level: i, Due: 5})
		}
		nets(n, func(waits []int, owners []int) {
			p := of(t, waits, owners, n)
			p.acyclic()
			for i := range n {
				p.one(i)
			}
			for _, base := range [][]api.Prio{falling, rising, equal, mixed[:n], mixed[5-n:]} {
				lends(t, base, waits, owners)
			}
		})
	}
}

// P11.1: of no threads, and of fewer than none, whatever the lists tell.
func TestNoThreads(t *testing.T) {
	for _, threads := range []int{0, -1, -2, -3, -1 << 32, math.MinInt32, math.MinInt + 1, math.MinInt} {
		for _, waits := range [][]int{nil, {}, {0}, {0, 1}, {1, 0}, {-1}, {0, 0, 0}, strangers()} {
			for _, owners := range [][]int{nil, {}, {0}, {1, 0}, {0, 1}, {-1}, {-1, -2, -3}, strangers()} {
				if !Acyclic(waits, owners, threads) {
					t.Errorf("Acyclic(%v, %v, %d)", waits, owners, threads)
				}
				of(t, waits, owners, threads).all()
				for i := range 3 {
					if k, chain := On(waits, owners, threads, i), Chain(waits, owners, threads, i); k != -1 || len(chain) != 0 {
						t.Errorf("of (%v, %v, %d): On(%d) %d, Chain %v", waits, owners, threads, i, k, chain)
					}
				}
			}
		}
	}
}

// P11.1: who waits is told by waits alone: threads beyond it wait for none, and what stands there of those that are no threads is not looked at.
func TestListsShorterAndLonger(t *testing.T) {
	long, owners := []int{0, 1, 2, 3, 4}, []int{1, 2, 3, 4, 0}
	for size := range len(long) + 1 {
		for threads := range 8 {
			p := of(t, long[:size], owners, threads)
			p.all()
			if got, want := Acyclic(long[:size], owners, threads), size < 5 || threads < 5; got != want {
				t.Errorf("Acyclic(%v, %v, %d): %t", long[:size], owners, threads, got)
			}
			for i := range 8 {
				want := -1
				if i < size && (i+1)%5 < threads && i < threads {
					want = (i + 1) % 5
				}
				if got := On(long[:size], owners, threads, i); got != want {
					t.Errorf("On(%v, %v, %d, %d): %d, not %d", long[:size], owners, threads, i, got, want)
				}
			}
		}
		for held := range len(owners) + 1 {
			of(t, long[:size], owners[:held], 5).all()
			of(t, long, owners[:held], 5).all()
		}
	}
}

// P11.1: more threads than any list tells of: all that is told of the few is told, and each call ends.
func TestManyThreads(t *testing.T) {
	for _, threads := range []int{6, 64, 256, 1<<16 + 1, 1 << 32, 1 << 62, math.MaxInt - 1, math.MaxInt} {
		of(t, nil, nil, threads).all()
		of(t, []int{0, 1, 2}, []int{1, 2, threads - 1}, threads).all()
		of(t, []int{0, 1, 2}, []int{1, 2, threads}, threads).all()
		of(t, []int{0, 1, 2}, []int{1, 2, 0}, threads).all()
		if got := Chain([]int{0, 1, 2}, []int{1, 2, threads - 1}, threads, 0); !slices.Equal(got, []int{1, 2, threads - 1}) {
			t.Errorf("of %d threads: Chain: %v", threads, got)
		}
		if got := On([]int{0}, []int{threads - 1}, threads, 0); got != threads-1 {
			t.Errorf("of %d threads: On: %d", threads, got)
		}
		if Acyclic([]int{0, 1, 2}, []int{1, 2, 0}, threads) || !Acyclic([]int{0, 1, 2}, []int{1, 2, threads - 1}, threads) {
			t.Errorf("of %d threads: Acyclic", threads)
		}
	}
}

// cutAt holds that of four threads in a ring at waits for nobody: nothing is lent to the next one, and nothing goes round.
func cutAt(t *testing.T, waits []int, owners []int, at int) {
	t.Helper()
	of(t, waits, owners, 4).all()
	if On(waits, owners, 4, at) != -1 || len(Chain(waits, owners, 4, at)) != 0 || !Acyclic(waits, owners, 4) {
		t.Errorf("of (%v, %v): On %d", waits, owners, On(waits, owners, 4, at))
	}
	next := (at + 1) % 4
	for _, base := range [][]api.Prio{{fixed(9), fixed(8), fixed(7), fixed(6)}, {early(9), early(8), early(7), early(6)}} {
		lends(t, base, waits, owners)
		if got := Effective(base, waits, owners); got[next] != base[next] {
			t.Errorf("Effective(%v, %v, %v): %v", base, waits, owners, got)
		}
	}
}

// P11.1, P11.2: waits that name no mutex, at each place: nobody is waited for there.
func TestWaitsThatNameNoMutex(t *testing.T) {
	for _, m := range append(strangers(), 4, 5, 6, 7, 8) {
		for at := range 4 {
			waits, owners := []int{0, 1, 2, 3}, []int{1, 2, 3, 0}
			waits[at] = m
			cutAt(t, waits, owners, at)
		}
		for held := range 4 {
			of(t, []int{m, held, 0, 1}, []int{0, 1, 2, 3}[:held], 4).all()
		}
	}
}

// P11.1, P11.2: owners that are no thread's number, at each place: the mutex is nobody's.
func TestOwnersThatAreNoThread(t *testing.T) {
	for _, owner := range append(strangers(), 4, 5, 6, 7, 8) {
		for at := range 4 {
			waits, owners := []int{0, 1, 2, 3}, []int{1, 2, 3, 0}
			owners[at] = owner
			cutAt(t, waits, owners, at)
		}
	}
	// The same numbers are threads where there are as many.
	for _, owner := range []int{4, 255, 256, 1 << 32, 1<<62 + 1, math.MaxInt - 1} {
		of(t, []int{0}, []int{owner}, owner).all()
		of(t, []int{0}, []int{owner}, owner+1).all()
		if On([]int{0}, []int{owner}, owner, 0) != -1 || On([]int{0}, []int{owner}, owner+1, 0) != owner {
			t.Errorf("of an owner %d: On", owner)
		}
	}
}

// P11.1: of i that is no thread, on either side, in nets in which all wait for somebody.
func TestNoThread(t *testing.T) {
	for _, i := range append(strangers(), 3, 4, 5, 6) {
		for _, waits := range [][]int{{0, 1, 2}, {0, 0, 0}, {2, 1, 0, 2, 1, 0}, {0}} {
			for _, owners := range [][]int{{1, 2, 0}, {0, 1, 2}, {0, 0, 0, 0}, {i, i, i}} {
				if k, chain := On(waits, owners, 3, i), Chain(waits, owners, 3, i); k != -1 || len(chain) != 0 {
					t.Errorf("of (%v, %v, 3): On(%d) %d, Chain %v", waits, owners, i, k, chain)
				}
				of(t, waits, owners, 3).one(i)
			}
		}
	}
}

// P11.1, P11.2: who waits for itself, alone and among others, at each place.
func TestWhoWaitsForItself(t *testing.T) {
	for n := 1; n <= 6; n++ {
		for at := range n {
			base, waits, owners := []api.Prio{}, slices.Repeat([]int{-1}, n), []int{-1, at}
			for i := range n {
				base = append(base, best(i))
			}
			waits[at] = 1
			if On(waits, owners, n, at) != at || !slices.Equal(Chain(waits, owners, n, at), []int{at}) || Acyclic(waits, owners, n) {
				t.Errorf("of (%v, %v): On %d, Chain %v", waits, owners, On(waits, owners, n, at), Chain(waits, owners, n, at))
			}
			of(t, waits, owners, n).all()
			if got := Effective(base, waits, owners); !slices.Equal(got, base) {
				t.Errorf("Effective(%v, %v, %v): %v", base, waits, owners, got)
			}
			// All wait for that one.
			waits = slices.Repeat([]int{1}, n)
			of(t, waits, owners, n).all()
			lends(t, base, waits, owners)
			if got := Effective(base, waits, owners); got[at] != best(n-1) || Acyclic(waits, owners, n) {
				t.Errorf("Effective(%v, %v, %v): %v", base, waits, owners, got)
			}
		}
	}
}

// P11.1: two who wait for one another, at each two places, others beside them.
func TestTwoForOneAnother(t *testing.T) {
	for n := 2; n <= 6; n++ {
		for i := range n {
			for k := range i {
				waits := slices.Repeat([]int{-1}, n)
				waits[i], waits[k] = 0, 1
				owners := []int{k, i}
				if Acyclic(waits, owners, n) || !slices.Equal(Chain(waits, owners, n, i), []int{k, i}) || !slices.Equal(Chain(waits, owners, n, k), []int{i, k}) {
					t.Errorf("of (%v, %v): Chain %v", waits, owners, Chain(waits, owners, n, i))
				}
				of(t, waits, owners, n).all()
				waits[k] = -1
				if !Acyclic(waits, owners, n) || !slices.Equal(Chain(waits, owners, n, i), []int{k}) {
					t.Errorf("of (%v, %v): Chain %v", waits, owners, Chain(waits, owners, n, i))
				}
			}
		}
	}
}

// P11.1: rings of each length, with and without a tail: whoever is asked, the chain goes round once and is not told again, also where it does not come back to who was asked.
func TestRings(t *testing.T) {
	for tail := range 9 {
		for n := 1; n <= 12; n++ {
			waits, owners := ring(tail, n)
			of(t, waits, owners, tail+n).all()
			if Acyclic(waits, owners, tail+n) {
				t.Errorf("of (%v, %v): Acyclic", waits, owners)
			}
			for i := range tail + n {
				got := Chain(waits, owners, tail+n, i)
				want := n
				if i < tail {
					want = tail - 1 - i + n
				}
				if len(got) != want || got[0] != On(waits, owners, tail+n, i) || slices.Contains(got, i) != (i >= tail) {
					t.Errorf("Chain(%v, %v, %d, %d): %v", waits, owners, tail+n, i, got)
				}
			}
			for at := tail; at < tail+n; at++ {
				cut := slices.Clone(waits)
				cut[at] = -1
				of(t, cut, owners, tail+n).all()
				if !Acyclic(cut, owners, tail+n) {
					t.Errorf("of (%v, %v): not Acyclic", cut, owners)
				}
			}
			// One thread fewer than the ring has.
			of(t, waits, owners, tail+n-1).all()
		}
	}
}

// P11.1: rings that stand behind rows that end, rows into the midst of a ring, and several rings beside one another.
func TestRingsAmongRows(t *testing.T) {
	for _, c := range []struct {
		on      []int // of each thread for whom it waits
		acyclic bool
	}{
		{[]int{-1, -1, -1}, true},
		{[]int{1, 2, -1, 4, 5, -1}, true},
		{[]int{1, 2, -1, 4, 5, 3}, false},
		{[]int{1, 2, 0, 4, 5, -1}, false},
		{[]int{1, 2, -1, 1, 3, 4}, true},
		{[]int{2, 2, 3, 4, 5, 3}, false},
		{[]int{-1, 0, 1, 2, 3, 4}, true},
		{[]int{5, 0, 1, 2, 3, 4}, false},
		{[]int{1, 0, 3, 2, 5, 4}, false},
		{[]int{0, 1, 2, 3, 4, 5}, false},
		{[]int{5, 5, 5, 5, 5, -1}, true},
		{[]int{5, 5, 5, 5, 5, 5}, false},
		{[]int{1, 5, 1, 1, 1, -1}, true},
		{[]int{3, 3, 3, 4, 5, 2}, false},
		{[]int{-1, 0, 0, 1, 1, 2}, true},
		{[]int{-1, 0, 0, 1, 1, 5}, false},
	} {
		n := len(c.on)
		owners := make([]int, n)
		for m := range owners {
			owners[m] = n - 1 - m
		}
		waits := []int{}
		for _, k := range c.on {
			// Nobody is -1 here: the mutex n, of which there is none.
			waits = append(waits, n-1-k)
		}
		if got := Acyclic(waits, owners, n); got != c.acyclic {
			t.Errorf("Acyclic of %v: %t", c.on, got)
		}
		for i, k := range c.on {
			if got := On(waits, owners, n, i); got != k {
				t.Errorf("of %v: On(%d): %d", c.on, i, got)
			}
		}
		of(t, waits, owners, n).all()
	}
}

// P11.1, P11.2: chains of each length that end: by one who waits for none, by a mutex that is nobody's, by a list that is over, by the last thread.
func TestRowsThatEnd(t *testing.T) {
	for n := 1; n <= 20; n++ {
		for _, last := range []int{-1, n, n + 1, math.MaxInt, math.MinInt} {
			waits, owners := row(n, last)
			p := of(t, waits, owners, n)
			p.all()
			want := []int{}
			for i := n - 1; i >= 0; i-- {
				if got := Chain(waits, owners, n, i); !slices.Equal(got, want) {
					t.Errorf("Chain(%v, %v, %d, %d): %v, not %v", waits, owners, n, i, got, want)
				}
				want = append([]int{i}, want...)
			}
			if !Acyclic(waits, owners, n) {
				t.Errorf("of (%v, %v, %d): not Acyclic", waits, owners, n)
			}
			of(t, waits[:n-1], owners, n).all()
			of(t, waits, append(slices.Clone(owners), -1), n).all()
			of(t, waits, append(slices.Clone(owners), n), n).all()
		}
	}
}

// P11.2: of no base, whatever the lists tell; of one, alone, waiting for itself, for nobody.
func TestEffectiveOfNoneAndOne(t *testing.T) {
	for _, waits := range [][]int{nil, {}, {0}, {0, 0, 0}, {-1}, {1, 0}, strangers()} {
		for _, owners := range [][]int{nil, {}, {0}, {-1}, {1, 0}, {5, 5}, strangers()} {
			for _, base := range [][]api.Prio{nil, {}} {
				if got := Effective(base, waits, owners); len(got) != 0 {
					t.Errorf("Effective(%v, %v, %v): %v", base, waits, owners, got)
				}
			}
			for _, p := range kinds() {
				if got := Effective([]api.Prio{p}, waits, owners); len(got) != 1 || got[0] != p {
					t.Errorf("Effective([%v], %v, %v): %v", p, waits, owners, got)
				}
			}
		}
	}
}

// P11.2: along a chain of each length, the greatest one at each place: all from it on have it, those ahead of it their own.
func TestEffectiveAlongRows(t *testing.T) {
	for n := 1; n <= 20; n++ {
		waits, owners := row(n, -1)
		for at := range n {
			base, want := []api.Prio{}, []api.Prio{}
			for i := range n {
				base = append(base, best(3))
				if i == at {
					base[i] = early(7)
				}
				want = append(want, best(3))
				if i >= at {
					want[i] = early(7)
				}
			}
			if got := Effective(base, waits, owners); !slices.Equal(got, want) {
				t.Errorf("Effective(%v, %v, %v): %v", base, waits, owners, got)
			}
			lends(t, base, waits, owners)
		}
		// Each is greater than those ahead of it: none lends anything. Then each is lesser: the first one lends to all.
		rising, falling := []api.Prio{}, []api.Prio{}
		for i := range n {
			rising = append(rising, fixed(i))
			falling = append(falling, fixed(40-i))
		}
		if got := Effective(rising, waits, owners); !slices.Equal(got, rising) {
			t.Errorf("Effective(%v, %v, %v): %v", rising, waits, owners, got)
		}
		if got := Effective(falling, waits, owners); !slices.Equal(got, slices.Repeat(falling[:1], n)) {
			t.Errorf("Effective(%v, %v, %v): %v", falling, waits, owners, got)
		}
	}
}

// P11.2: along rings of each length, with and without a tail, the greatest one at each place: all of the ring have it, of the tail those behind it.
func TestEffectiveAlongRings(t *testing.T) {
	for tail := range 5 {
		for n := 1; n <= 8; n++ {
			waits, owners := ring(tail, n)
			for at := range tail + n {
				base, want := []api.Prio{}, []api.Prio{}
				for i := range tail + n {
					base = append(base, early(9))
					if i == at {
						base[i] = fixed(0)
					}
					want = append(want, early(9))
					if i >= tail || i >= at {
						want[i] = fixed(0)
					}
				}
				if got := Effective(base, waits, owners); !slices.Equal(got, want) {
					t.Errorf("Effective(%v, %v, %v): %v, not %v", base, waits, owners, got, want)
				}
				lends(t, base, waits, owners)
			}
		}
	}
}

// P11.2: of several who wait for one mutex, the greatest at each place lends; who waits is lent nothing.
func TestEffectiveOfSeveral(t *testing.T) {
	for n := 2; n <= 8; n++ {
		for owner := range n {
			for greatest := range n {
				base := slices.Repeat([]api.Prio{best(5)}, n)
				base[greatest] = best(6)
				waits := slices.Repeat([]int{0}, n)
				waits[owner] = -1
				want := slices.Clone(base)
				want[owner] = best(6)
				if got := Effective(base, waits, []int{owner}); !slices.Equal(got, want) {
					t.Errorf("Effective(%v, %v, [%d]): %v", base, waits, owner, got)
				}
				lends(t, base, waits, []int{owner})
				lends(t, base, slices.Repeat([]int{0}, n), []int{owner})
			}
		}
	}
	// Of one who waits for two of a thread's mutexes only one is waited for; several mutexes are one thread's.
	base := []api.Prio{best(1), best(2), best(3), best(4)}
	if got := Effective(base, []int{-1, 0, 1, 2}, []int{0, 0, 0}); !slices.Equal(got, []api.Prio{best(4), best(2), best(3), best(4)}) {
		t.Errorf("several mutexes of one: %v", got)
	}
}

// P11.2: of equal priorities that are told apart by what Compare does not look at the own base is ahead of all, then the least number, whoever waits for whom.
func TestEffectiveOfEqualOnes(t *testing.T) {
	equal := func(mark int) api.Prio { return api.Prio{Class: api.Early, Level: mark, Due: 5} }
	less := func(mark int) api.Prio { return api.Prio{Class: api.Best, Level: 3, Due: mark} }
	for n := 2; n <= 5; n++ {
		for who := range 1 << n {
			base := []api.Prio{}
			for i := range n {
				base = append(base, less(i))
				if who>>i&1 == 1 {
					base[i] = equal(i)
				}
			}
			if n <= 4 {
				nets(n, func(waits []int, owners []int) { lends(t, base, waits, owners) })
			}
			for owner := range n {
				waits := slices.Repeat([]int{0}, n)
				waits[owner] = -1
				lends(t, base, waits, []int{owner})
			}
		}
	}
	three := []api.Prio{equal(7), equal(8), less(9)}
	for _, c := range []struct {
		base  []api.Prio
		waits []int
		own   []int
		want  []api.Prio
	}{
		{three, []int{0, 0}, []int{2}, []api.Prio{equal(7), equal(8), equal(7)}},
		{three, []int{-1, 0}, []int{2}, []api.Prio{equal(7), equal(8), equal(8)}},
		{three, []int{0, 1}, []int{1, 2}, []api.Prio{equal(7), equal(8), equal(7)}},
		{three, []int{1, 0}, []int{0, 2}, []api.Prio{equal(7), equal(8), equal(7)}},
		{three, []int{0, 1}, []int{1, 0}, three},
		{three, []int{0, 0, 0}, []int{2}, []api.Prio{equal(7), equal(8), equal(7)}},
		{[]api.Prio{less(1), equal(2), equal(3)}, []int{-1, 0, 0}, []int{0}, []api.Prio{equal(2), equal(2), equal(3)}},
		{[]api.Prio{less(1), equal(2), equal(3)}, []int{-1, 0, 1}, []int{0, 1}, []api.Prio{equal(2), equal(2), equal(3)}},
		{[]api.Prio{less(1), equal(2), equal(3)}, []int{-1, 1, 0}, []int{0, 2}, []api.Prio{equal(2), equal(2), equal(3)}},
		{[]api.Prio{less(1), less(2), less(3)}, []int{0, 1, 2}, []int{1, 2, 0}, []api.Prio{less(1), less(2), less(3)}},
	} {
		if got := Effective(c.base, c.waits, c.own); !slices.Equal(got, c.want) {
			t.Errorf("Effective(%v, %v, %v): %v, not %v", c.base, c.waits, c.own, got, c.want)
		}
	}
}

// kinds are priorities of each class, at their bounds and in their midst, and some that may not be.
func kinds() []api.Prio {
	list := []api.Prio{
		best(0), best(7), best(15), early(0), early(5), early(9), early(api.Most), fixed(0), fixed(1), fixed(63),
		{}, {Class: -1}, {Class: 3}, {Class: 3, Level: 1, Due: 1}, {Class: math.MinInt, Level: math.MaxInt}, {Class: math.MaxInt, Level: math.MinInt},
	}
	for class := api.Best; class <= api.Fixed; class++ {
		for _, x := range []int{math.MinInt, -1, math.MaxInt} {
			list = append(list, api.Prio{Class: class, Level: x}, api.Prio{Class: class, Due: x}, api.Prio{Class: class, Level: x, Due: x})
		}
	}
	return list
}

// P11.2: priorities of each kind against each other one: the greater one lends, a lesser one and an equal one do not, on either side.
func TestEffectiveOfEachKind(t *testing.T) {
	for _, a := range kinds() {
		for _, b := range kinds() {
			greater := a
			if prio.Compare(b, a) > 0 {
				greater = b
			}
			if got := Effective([]api.Prio{a, b}, []int{-1, 0}, []int{0}); got[0] != greater || got[1] != b {
				t.Errorf("%v waits for %v: %v", b, a, got)
			}
			if got := Effective([]api.Prio{b, a}, []int{0, -1}, []int{1}); got[1] != greater || got[0] != b {
				t.Errorf("%v waits for %v: %v", b, a, got)
			}
			base := []api.Prio{a, b, {Class: math.MinInt, Level: math.MinInt}}
			lends(t, base, []int{0, 0, -1}, []int{2})
			lends(t, base, []int{0, 1, -1}, []int{2, 0})
			lends(t, base, []int{1, 0, -1}, []int{2, 1})
			lends(t, base, []int{0, 1, 2}, []int{1, 2, 0})
		}
	}
	rungs := []api.Prio{best(0), best(15), early(api.Most), early(1), early(0), fixed(0), fixed(63)}
	for i, low := range rungs {
		for _, high := range rungs[i+1:] {
			if got := Effective([]api.Prio{low, high}, []int{-1, 0}, []int{0}); got[0] != high || got[1] != high {
				t.Errorf("%v waits for %v: %v", high, low, got)
			}
			if got := Effective([]api.Prio{low, high}, []int{0, -1}, []int{1}); got[0] != low || got[1] != high {
				t.Errorf("%v waits for %v: %v", low, high, got)
			}
		}
	}
}

// P11.2, P11.3: all ways in which up to four threads wait for one another, with all bases out of four.
func TestEffectiveOfAllBases(t *testing.T) {
	of := []api.Prio{{Class: api.Early, Level: 1, Due: 5}, {Class: api.Early, Level: 2, Due: 5}, best(9), fixed(2)}
	for n := 1; n <= 4; n++ {
		bases := [][]api.Prio{}
		lists(n, []int{0, 1, 2, 3}, func(list []int) {
			base := []api.Prio{}
			for _, x := range list {
				base = append(base, of[x])
			}
			if len(base) == n {
				bases = append(bases, base)
			}
		})
		nets(n, func(waits []int, owners []int) {
			l := linksOf(waits, owners, n)
			for _, base := range bases {
				got, want := Effective(base, waits, owners), l.effective(base)
				if !slices.Equal(got, want) {
					t.Fatalf("Effective(%v, %v, %v): %v, not %v", base, waits, owners, got, want)
				}
				settled(t, base, l, got)
			}
		})
	}
}

// P11.2: threads are those of base: who waits beyond it lends nothing, owners beyond it are none, and threads beyond waits have their own, or what is lent to them.
func TestEffectiveOfOtherLengths(t *testing.T) {
	base := []api.Prio{best(1), best(2), early(3), fixed(4), fixed(5), fixed(6)}
	for threads := range len(base) + 1 {
		for size := range 7 {
			for held := range 7 {
				waits, owners := []int{-1, 0, 1, 2, 3, 4}[:size], []int{0, 1, 2, 3, 4, 5}[:held]
				lends(t, base[:threads], waits, owners)
				waits, owners = []int{5, 4, 3, 2, 1, 0}[:size], []int{0, 0, 5, 1, 2, 4}[:held]
				lends(t, base[:threads], waits, owners)
			}
		}
	}
	if got := Effective(base[:2], []int{-1, -1, 0}, []int{0}); !slices.Equal(got, base[:2]) {
		t.Errorf("who is no thread lends: %v", got)
	}
	if got := Effective(base[:2], []int{0, 0}, []int{2}); !slices.Equal(got, base[:2]) {
		t.Errorf("a mutex of no thread's: %v", got)
	}
	if got := Effective([]api.Prio{fixed(9), best(1)}, []int{0}, []int{1}); got[1] != fixed(9) {
		t.Errorf("to a thread beyond waits: %v", got)
	}
}

// dice is a row of numbers by a simple rule, the same ones each time.
type dice uint64

func (d *dice) below(n int) int {
	*d = *d*6364136223846793005 + 1442695040888963407
	return int(uint64(*d)>>33) % n
}

// numbers answers size numbers, most of them below most, few of them strangers.
func (d *dice) numbers(size int, most int) []int {
	list := make([]int, size)
	for i := range list {
		list[i] = d.below(most+2) - 1
		if d.below(20) == 0 {
			list[i] = strangers()[d.below(len(strangers()))]
		}
	}
	return list
}

func (d *dice) prio() api.Prio {
	if d.below(30) == 0 {
		return kinds()[d.below(len(kinds()))]
	}
	return api.Prio{Class: d.below(3), Level: d.below(4), Due: d.below(4)}
}

// P11.1 to P11.3: many nets of up to twenty threads, as many as there may be, and of a few more.
func TestManyNets(t *testing.T) {
	d := dice(11)
	for range 6000 {
		threads := d.below(24)
		owners := d.numbers(d.below(threads+4), threads)
		waits := d.numbers(d.below(threads+4), len(owners))
		p := of(t, waits, owners, threads)
		p.acyclic()
		for i := -1; i <= threads; i++ {
			p.one(i)
		}
		base := make([]api.Prio, threads)
		for i := range base {
			base[i] = d.prio()
		}
		lends(t, base, waits, owners)
	}
}

// P11.1 to P11.3: nets of a thread's mutex each, in which many wait along long chains, in any order of numbers.
func TestLongNets(t *testing.T) {
	d := dice(12)
	for range 800 {
		threads := 1 + d.below(40)
		owners := make([]int, threads)
		for m := range owners {
			owners[m] = m
		}
		for m := range owners {
			k := d.below(threads)
			owners[m], owners[k] = owners[k], owners[m]
		}
		waits := make([]int, threads)
		for i := range waits {
			waits[i] = (i + 1) % threads
			if d.below(6) == 0 {
				waits[i] = d.below(threads+1) - 1
			}
		}
		p := of(t, waits, owners, threads)
		p.acyclic()
		base := make([]api.Prio, threads)
		for i := range base {
			p.one(i)
			base[i] = d.prio()
		}
		lends(t, base, waits, owners)
	}
}

// size is of lists that are so long that what goes over a chain again for each thread of it would not end here.
const size = 1 << 19

// P11.1: great rows and rings end in a time that their sizes explain.
func TestGreatNets(t *testing.T) {
	waits, owners := row(size, -1)
	if !Acyclic(waits, owners, size) || len(Chain(waits, owners, size, 0)) != size-1 || On(waits, owners, size, size-2) != size-1 {
		t.Error("a great row")
	}
	back := slices.Clone(owners)
	for i := range waits {
		waits[i] = i - 1
	}
	for m := range back {
		back[m] = m
	}
	if !Acyclic(waits, back, size) || len(Chain(waits, back, size, size-1)) != size-1 {
		t.Error("a great row back")
	}
	waits, owners = ring(0, size)
	if chain := Chain(waits, owners, size, 9); Acyclic(waits, owners, size) || len(chain) != size || chain[size-1] != 9 {
		t.Error("a great ring")
	}
	waits, owners = ring(size/2, size/2)
	if Acyclic(waits, owners, size) || len(Chain(waits, owners, size, 0)) != size-1 || len(Chain(waits, owners, size, size-1)) != size/2 {
		t.Error("a great ring with a tail")
	}
	waits, owners = ring(size-1, 1)
	if Acyclic(waits, owners, size) || !Acyclic(waits, owners, size-1) || len(Chain(waits, owners, size, 0)) != size-1 {
		t.Error("a great tail")
	}
}

// P11.2: great rows, rings and crowds end in a time that their sizes explain, with bases that rise, that fall and that are equal.
func TestGreatEffective(t *testing.T) {
	rising, falling, equal := make([]api.Prio, size), make([]api.Prio, size), make([]api.Prio, size)
	for i := range size {
		rising[i], falling[i], equal[i] = early(size-i), early(i), api.Prio{Class: api.Early, Level: i}
	}
	waits, owners := row(size, -1)
	if got := Effective(rising, waits, owners); !slices.Equal(got, rising) {
		t.Error("a great row that rises")
	}
	if got := Effective(equal, waits, owners); !slices.Equal(got, equal) {
		t.Error("a great row of equal ones")
	}
	if got := Effective(falling, waits, owners); !slices.Equal(got, slices.Repeat(falling[:1], size)) {
		t.Error("a great row that falls")
	}
	waits, owners = ring(0, size)
	if got := Effective(rising, waits, owners); !slices.Equal(got, slices.Repeat(rising[size-1:], size)) {
		t.Error("a great ring that rises")
	}
	if got := Effective(equal, waits, owners); !slices.Equal(got, equal) {
		t.Error("a great ring of equal ones")
	}
	waits, owners = slices.Repeat([]int{0}, size), []int{size - 1}
	equal[size-1] = best(0)
	if got := Effective(equal, waits, owners); got[size-1] != equal[0] || got[1] != equal[1] {
		t.Errorf("a great crowd: %v", got[size-1])
	}
}

// P11.1: what is asked of one thread hangs not on how many there are: a short chain in great lists is told at once.
func TestShortChainsOfGreatLists(t *testing.T) {
	waits, owners := slices.Repeat([]int{-1}, 1<<22), []int{5, 1<<22 - 1, 1 << 22}
	waits[3], waits[5], waits[1<<22-1] = 0, 1, 2
	for range 50000 {
		if got := Chain(waits, owners, math.MaxInt, 3); !slices.Equal(got, []int{5, 1<<22 - 1, 1 << 22}) {
			t.Fatalf("Chain: %v", got)
		}
		if got := On(waits, owners, math.MaxInt, 5); got != 1<<22-1 {
			t.Fatalf("On: %d", got)
		}
	}
}

// handed are lists that stand in rooms with more behind them.
type handed struct {
	base   []api.Prio
	waits  []int
	owners []int
}

func rooms() handed {
	return handed{
		[]api.Prio{best(1), fixed(2), early(3), best(4), fixed(63), fixed(63)},
		[]int{-1, 0, 1, 2, 0, 1, 3, 3},
		[]int{3, 0, 1, 2, 5, 4, 3},
	}
}

func (h handed) equal(other handed) bool {
	return slices.Equal(h.base, other.base) && slices.Equal(h.waits, other.waits) && slices.Equal(h.owners, other.owners)
}

// R4: no call changes what it is given, nor its spare room, nor looks at that.
func TestNothingHandedInIsChanged(t *testing.T) {
	h := rooms()
	for threads := range len(h.base) + 1 {
		for wide := range len(h.waits) + 1 {
			for held := range len(h.owners) + 1 {
				base, waits, owners := h.base[:threads], h.waits[:wide], h.owners[:held]
				p := of(t, waits, owners, threads)
				p.all()
				lends(t, base, waits, owners)
				tight := of(t, slices.Clip(slices.Clone(waits)), slices.Clip(slices.Clone(owners)), threads)
				tight.all()
				if !slices.Equal(Effective(base, waits, owners), Effective(slices.Clone(base), tight.waits, tight.owners)) {
					t.Fatalf("Effective(%v, %v, %v) looks at the spare room", base, waits, owners)
				}
				if !h.equal(rooms()) {
					t.Fatalf("of (%v, %v, %v): the rooms became %v", base, waits, owners, h)
				}
			}
		}
	}
}

// R4: what is answered is new: it stays when what was handed in is written over, and when it is itself written over, behind its end too, nothing else changes.
func TestAnswersAreNew(t *testing.T) {
	h := rooms()
	base, waits, owners := h.base[:4], h.waits[:4], h.owners[:4]
	effective, chain := Effective(base, waits, owners), Chain(waits, owners, 4, 3)
	again, other := Effective(base, waits, owners), Chain(waits, owners, 4, 3)
	want, told := slices.Clone(effective), slices.Clone(chain)
	if len(want) != 4 || len(told) != 2 {
		t.Fatalf("Effective %v, Chain %v", want, told)
	}
	clear(h.base)
	clear(h.waits)
	clear(h.owners)
	if !slices.Equal(effective, want) || !slices.Equal(chain, told) {
		t.Errorf("behind what was handed in: %v, %v", effective, chain)
	}
	h = rooms()
	base, waits, owners = h.base[:4], h.waits[:4], h.owners[:4]
	effective, chain = Effective(base, waits, owners), Chain(waits, owners, 4, 3)
	for i := range effective[:cap(effective)] {
		effective[:cap(effective)][i] = fixed(-7)
	}
	for i := range chain[:cap(chain)] {
		chain[:cap(chain)][i] = -7
	}
	if !h.equal(rooms()) || !slices.Equal(again, want) || !slices.Equal(other, told) {
		t.Errorf("behind an answer: %v, %v, %v", h, again, other)
	}
	if !slices.Equal(Effective(base, waits, owners), want) || !slices.Equal(Chain(waits, owners, 4, 3), told) {
		t.Error("a later answer has changed")
	}
}

// R4: where nobody waits the bases are answered, in memory of their own.
func TestBasesAreNotAnswered(t *testing.T) {
	for n := 1; n <= 6; n++ {
		base := rooms().base[:n]
		got := Effective(base, nil, nil)
		if !slices.Equal(got, base) {
			t.Fatalf("Effective(%v): %v", base, got)
		}
		got[0] = fixed(33)
		if base[0] != best(1) {
			t.Fatal("the base was answered itself")
		}
		base[n-1] = fixed(44)
		if n > 1 && got[n-1] == fixed(44) {
			t.Fatal("the base is what was answered")
		}
	}
}

// R5: nothing is kept: what is asked in between changes no answer.
func TestNothingIsKept(t *testing.T) {
	h := rooms()
	effective, chain := Effective(h.base, h.waits, h.owners), Chain(h.waits, h.owners, 6, 4)
	for n := 1; n <= 9; n++ {
		waits, owners := ring(n/2, n)
		Acyclic(waits, owners, n)
		Effective(slices.Repeat([]api.Prio{fixed(n)}, n), waits, owners)
		Chain(waits, owners, n, 0)
		if !slices.Equal(Effective(h.base, h.waits, h.owners), effective) || !slices.Equal(Chain(h.waits, h.owners, 6, 4), chain) {
			t.Fatal("an answer has changed")
		}
	}
}

// R5: all may be called from several goroutines at one time, of the same lists too.
func TestAtOneTime(t *testing.T) {
	h := rooms()
	var group sync.WaitGroup
	for worker := range 4 {
		group.Go(func() {
			for k := range 300 {
				threads := (k*(2*worker+1) + worker) % (len(h.base) + 1)
				l := linksOf(h.waits, h.owners, threads)
				if got := Effective(h.base[:threads], h.waits, h.owners); !slices.Equal(got, l.effective(h.base[:threads])) {
					t.Errorf("of %d threads: Effective: %v", threads, got)
				}
				if got := Acyclic(h.waits, h.owners, threads); got != l.acyclic() {
					t.Errorf("of %d threads: Acyclic: %t", threads, got)
				}
				for i := range threads {
					if got := Chain(h.waits, h.owners, threads, i); !slices.Equal(got, l.chain(i)) || On(h.waits, h.owners, threads, i) != l.on(i) {
						t.Errorf("of %d threads: Chain(%d): %v", threads, i, got)
					}
				}
			}
		})
	}
	group.Wait()
}
