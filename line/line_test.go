package line

import (
	"math"
	"math/rand"
	"slices"
	"sync"
	"testing"

	"coxswain/api"
)

// The chapter's way: Arrive and Tick take what lets one through as a function value, and go by one method value.
var (
	_ func(*kept, func(int) bool, int) bool = (*kept).arrive
	_ func(*kept, func(int) bool, int) bool = (*kept).again
	_ func(int) bool                        = (&gate{}).let
)

// From the document: the greatest number of ticks there is, and the greatest gap.
const (
	most     = 1 << 40
	greatest = 1000
)

// book keeps the moments of all that was let through, as the promises tell of them, how many of these were taken, and whether one is kept back.
type book struct {
	gap     int
	through []int
	taken   int
	back    bool
}

func bookOf(gap int) *book { return &book{gap: gap} }

// next is a gap behind the last one that was let through.
func (b *book) next() int {
	if len(b.through) == 0 {
		return 0
	}
	last := b.through[len(b.through)-1]
	// Asked by a difference: the sum may wrap round.
	if last > most-b.gap {
		return most
	}
	return last + b.gap
}

func (b *book) pending() (int, bool) {
	if b.taken == len(b.through) {
		return 0, false
	}
	return b.through[b.taken], true
}

func (b *book) take() (int, bool) {
	at, ok := b.pending()
	if ok {
		b.taken++
	}
	return at, ok
}

// open is whether one that comes at now is let through.
func (b *book) open(now int) bool {
	_, pending := b.pending()
	return !pending && now >= b.next()
}

func (b *book) arrive(now int) bool {
	if !b.open(now) {
		b.back = true
		return false
	}
	b.through = append(b.through, now)
	return true
}

func (b *book) tick(now int) bool {
	if !b.back || !b.open(now) {
		return false
	}
	b.back = false
	return b.arrive(now)
}

// both is a line and its book; each call is made of both.
type both struct {
	t *testing.T
	l *Line
	b *book
}

func made(t *testing.T, gap int) both {
	t.Helper()
	l, e := New(gap)
	if e != api.OK || l == nil {
		t.Fatalf("New(%d): %d", gap, e)
	}
	return both{t, l, bookOf(gap)}
}

func (b both) arrive(now int) bool {
	b.t.Helper()
	got, want := b.l.Arrive(now), b.b.arrive(now)
	if got != want {
		b.t.Fatalf("Arrive(%d): %t, not %t; %+v", now, got, want, *b.b)
	}
	return got
}

func (b both) tick(now int) bool {
	b.t.Helper()
	got, want := b.l.Tick(now), b.b.tick(now)
	if got != want {
		b.t.Fatalf("Tick(%d): %t, not %t; %+v", now, got, want, *b.b)
	}
	return got
}

func (b both) take() (int, bool) {
	b.t.Helper()
	got, ok := b.l.Take()
	want, wanted := b.b.take()
	if got != want || ok != wanted {
		b.t.Fatalf("Take: %d %t, not %d %t; %+v", got, ok, want, wanted, *b.b)
	}
	return got, ok
}

// check looks at all that a line tells; twice, since looking changes nothing.
func (b both) check() {
	b.t.Helper()
	for range 2 {
		want, wanted := b.b.pending()
		if got, ok := b.l.Pending(); got != want || ok != wanted {
			b.t.Fatalf("Pending: %d %t, not %d %t; %+v", got, ok, want, wanted, *b.b)
		}
		if got := b.l.Masked(); got != b.b.back {
			b.t.Fatalf("Masked: %t; %+v", got, *b.b)
		}
		if got, want := b.l.Next(), b.b.next(); got != want {
			b.t.Fatalf("Next: %d, not %d; %+v", got, want, *b.b)
		}
	}
}

// told is all that a line tells without a change.
type told struct {
	at              int
	pending, masked bool
	next            int
}

func tell(l *Line) told {
	at, pending := l.Pending()
	return told{at, pending, l.Masked(), l.Next()}
}

// expect holds what a line tells against what is written out.
func expect(t *testing.T, what string, l *Line, want told) {
	t.Helper()
	if got := tell(l); got != want {
		t.Errorf("%s: %+v, not %+v", what, got, want)
	}
}

// gaps are those at the edges, and some between.
func gaps() []int { return []int{1, 2, 3, 5, 8, 50, 64, 100, 255, 256, 512, 999, 1000} }

// strange are moments far below and far above all that a kernel comes to, and at the edges of all kinds of numbers.
func strange() []int {
	return []int{
		math.MinInt, math.MinInt + 1, math.MinInt + greatest, -1 << 62, -most - 1, -most, -most + 1, -1 << 32, -1<<32 + 1, -1 << 31, -1<<31 - 1, -1 << 16,
		-1001, -1000, -999, -256, -255, -5, -2, -1,
		1 << 16, 1<<31 - 1, 1 << 31, 1<<32 - 1, 1 << 32, 1<<32 + 1, most - 1001, most - 1000, most - 999, most - 2, most - 1, most, most + 1, most + 999,
		most + 1000, most + 1001, 1 << 41, 1 << 62, math.MaxInt - 1001, math.MaxInt - 1000, math.MaxInt - 999, math.MaxInt - 1, math.MaxInt,
	}
}

// states are the four that a line of this gap can be in behind the moment at: with one pending or not, one kept back or not.
func states(t *testing.T, gap int, at int) []both {
	t.Helper()
	list := []both{}
	for _, pending := range []bool{false, true} {
		for _, back := range []bool{false, true} {
			b := made(t, gap)
			b.arrive(at)
			if back {
				b.arrive(at)
			}
			if !pending {
				b.take()
			}
			want := told{masked: back, next: at + gap}
			if pending {
				want.at, want.pending = at, true
			}
			expect(t, "a state", b.l, want)
			list = append(list, b)
		}
	}
	return list
}

// The chapter's example.
func TestExample(t *testing.T) {
	l, e := New(5)
	if e != api.OK {
		t.Fatalf("New(5): %d", e)
	}
	if !l.Arrive(0) || l.Arrive(2) {
		t.Error("Arrive(0), Arrive(2)")
	}
	if at, ok := l.Take(); at != 0 || !ok {
		t.Errorf("Take: %d %t", at, ok)
	}
	if l.Tick(4) || !l.Tick(5) {
		t.Error("Tick(4), Tick(5)")
	}
	if at, ok := l.Pending(); at != 5 || !ok {
		t.Errorf("Pending: %d %t", at, ok)
	}
}

// P14.1: New of a gap that is not from 1 to 1000 is ErrArg, and there is no line.
func TestNewOfGapsThatMayNotBe(t *testing.T) {
	for _, gap := range []int{
		0, -1, -2, -999, -1000, -1001, math.MinInt, math.MinInt + 1, math.MinInt + 1000, -most, -1 << 32, -1<<32 + 1, -1 << 31, -1 << 16, -256, -255,
		greatest + 1, greatest + 2, 1024, 1 << 16, 1<<16 + 1, 1 << 31, 1 << 32, 1<<32 + 1, 1<<32 + 1000, most, most + 1, 1 << 62, math.MaxInt - 1, math.MaxInt,
	} {
		if l, e := New(gap); l != nil || e != api.ErrArg {
			t.Errorf("New(%d): %v %d", gap, l, e)
		}
	}
}

// P14.1: New of each gap from 1 to 1000: nothing has come, the next one may come at 0, and the one behind it a gap later.
func TestNew(t *testing.T) {
	for gap := 1; gap <= greatest; gap++ {
		b := made(t, gap)
		expect(t, "New", b.l, told{})
		b.take()
		b.tick(0)
		b.tick(math.MaxInt)
		expect(t, "New, Take, Tick", b.l, told{})
		if !b.arrive(0) {
			t.Errorf("of %d: Arrive(0)", gap)
		}
		expect(t, "Arrive(0)", b.l, told{at: 0, pending: true, next: gap})
		b.take()
		if b.arrive(gap-1) || !b.arrive(gap) {
			t.Errorf("of %d: Arrive(%d), Arrive(%d)", gap, gap-1, gap)
		}
		expect(t, "Arrive(gap)", b.l, told{at: gap, pending: true, masked: true, next: 2 * gap})
	}
}

// P14.1: the first one may come at each moment from 0 on, and is pending as come then; below 0 it is kept back.
func TestTheFirst(t *testing.T) {
	for _, gap := range gaps() {
		for _, now := range append(strange(), 0, 1, 2, 7, 1000) {
			b := made(t, gap)
			if got := b.arrive(now); got != (now >= 0) {
				t.Errorf("of %d: Arrive(%d): %t", gap, now, got)
			}
			if now < 0 {
				expect(t, "Arrive below 0", b.l, told{masked: true})
			} else {
				expect(t, "Arrive", b.l, told{at: now, pending: true, next: min(min(now, most)+gap, most)})
			}
			b.check()
		}
	}
}

// P14.1: Arrive with nothing pending, below, at and behind the moment from which on the next one may come: with one kept back, and without; what is kept back stays so when another one is let through.
func TestArriveWithNothingPending(t *testing.T) {
	for _, gap := range gaps() {
		for _, at := range []int{0, 1, 7, 1 << 31, most / 2} {
			moments := []int{at + gap - 1, at + gap, at + gap + 1, at + 2*gap, at + 3*gap, at, at - 1, 0}
			for _, now := range append(moments, strange()...) {
				for _, b := range states(t, gap, at) {
					if _, pending := b.l.Pending(); pending {
						continue
					}
					back := b.l.Masked()
					if got := b.arrive(now); got != (now >= at+gap) {
						t.Fatalf("of %d behind %d: Arrive(%d): %t", gap, at, now, got)
					}
					if now < at+gap {
						expect(t, "too early", b.l, told{masked: true, next: at + gap})
					} else {
						expect(t, "let through", b.l, told{now, true, back, min(min(now, most)+gap, most)})
					}
				}
			}
		}
	}
}

// P14.1: with something pending each one that comes is kept back, whenever that is; what is pending, and when the next one may come, stays.
func TestArriveWithOnePending(t *testing.T) {
	for _, gap := range gaps() {
		for _, at := range []int{0, 3, 1 << 32} {
			moments := []int{at, at + 1, at + gap - 1, at + gap, at + gap + 1, at + 5*gap}
			for _, now := range append(moments, strange()...) {
				for _, b := range states(t, gap, at) {
					if _, pending := b.l.Pending(); !pending {
						continue
					}
					for range 3 {
						if b.arrive(now) {
							t.Fatalf("of %d, with %d pending: Arrive(%d)", gap, at, now)
						}
						expect(t, "kept back", b.l, told{at, true, true, at + gap})
					}
				}
			}
		}
	}
}

// P14.1: one alone is kept back, however many come: behind one Tick that takes it nothing is.
func TestOneAloneIsKeptBack(t *testing.T) {
	for _, gap := range gaps() {
		for _, many := range []int{1, 2, 3, 255, 256, 257, 1000} {
			b := made(t, gap)
			b.arrive(0)
			for now := range many {
				b.arrive(now)
			}
			b.take()
			for range many {
				b.arrive(gap - 1)
			}
			expect(t, "many came", b.l, told{masked: true, next: gap})
			if !b.tick(gap) {
				t.Fatalf("of %d, %d having come: Tick(%d)", gap, many, gap)
			}
			b.take()
			for now := gap; now < 6*gap; now++ {
				if b.tick(now) {
					t.Fatalf("of %d, %d having come: Tick(%d) once more", gap, many, now)
				}
			}
			expect(t, "nothing is kept back", b.l, told{next: 2 * gap})
		}
	}
}

// P14.1: Tick with nothing kept back does nothing, whenever it comes, with one pending or none.
func TestTickWithNothingKeptBack(t *testing.T) {
	for _, gap := range gaps() {
		for _, now := range append(strange(), 0, 1, gap-1, gap, gap+1, 2*gap) {
			b := made(t, gap)
			if b.tick(now) {
				t.Errorf("of %d: Tick(%d)", gap, now)
			}
			expect(t, "at first", b.l, told{})
			for _, b := range states(t, gap, 0) {
				if b.l.Masked() {
					continue
				}
				was := tell(b.l)
				if b.tick(now) || b.tick(now) {
					t.Errorf("of %d behind 0: Tick(%d)", gap, now)
				}
				expect(t, "Tick", b.l, was)
			}
		}
	}
}

// P14.1: Tick with one kept back while one is pending does nothing, whenever it comes; once that is taken, it takes it.
func TestTickWithOnePending(t *testing.T) {
	for _, gap := range gaps() {
		for _, at := range []int{0, 9, 1 << 31} {
			for _, now := range append(strange(), at, at+gap-1, at+gap, at+gap+1, at+4*gap) {
				b := made(t, gap)
				b.arrive(at)
				b.arrive(at)
				if b.tick(now) || b.tick(now) {
					t.Fatalf("of %d, with %d pending: Tick(%d)", gap, at, now)
				}
				expect(t, "Tick", b.l, told{at, true, true, at + gap})
				b.take()
				if got := b.tick(now); got != (now >= at+gap) {
					t.Fatalf("of %d, %d taken: Tick(%d): %t", gap, at, now, got)
				}
				b.check()
			}
		}
	}
}

// P14.1: Tick with one kept back and nothing pending: ahead of the moment from which on the next one may come it does nothing; at it and behind it it takes what is kept back, as come then, once.
func TestTickAheadAtAndBehind(t *testing.T) {
	for _, gap := range gaps() {
		for _, at := range []int{0, 1, 4, 1000, most / 2, most - 3000} {
			for _, late := range []int{-2000, -gap, -gap + 1, -2, -1, 0, 1, 2, gap - 1, gap, gap + 1, 3 * gap} {
				b := made(t, gap)
				b.arrive(at)
				b.take()
				b.arrive(at)
				now := at + gap + late
				got := b.tick(now)
				if got != (late >= 0) {
					t.Fatalf("of %d behind %d: Tick(%d): %t", gap, at, now, got)
				}
				if !got {
					expect(t, "ahead", b.l, told{masked: true, next: at + gap})
					continue
				}
				expect(t, "at or behind", b.l, told{at: now, pending: true, next: min(now+gap, most)})
				if b.tick(now) || b.tick(now+gap) {
					t.Fatalf("of %d behind %d: Tick(%d) once more", gap, at, now)
				}
				b.take()
				if b.tick(now + gap) {
					t.Fatalf("of %d behind %d: Tick(%d) once more", gap, at, now+gap)
				}
				expect(t, "once", b.l, told{next: min(now+gap, most)})
			}
		}
	}
}

// P14.1: one that came below 0, ahead of all others, is kept back: Tick takes it from 0 on.
func TestTickOfWhatCameBelowNone(t *testing.T) {
	for _, first := range []int{-1, -1000, -most, math.MinInt} {
		for _, now := range append(strange(), 0, 1, 5) {
			b := made(t, 5)
			b.arrive(first)
			if got := b.tick(now); got != (now >= 0) {
				t.Errorf("Arrive(%d), Tick(%d): %t", first, now, got)
			}
			b.check()
		}
	}
}

// P14.1: what is kept back may be so for long: it is taken whenever the way is free, with others let through ahead of it.
func TestKeptBackForLong(t *testing.T) {
	for _, gap := range gaps() {
		b := made(t, gap)
		b.arrive(0)
		b.arrive(0)
		for k := 1; k < 20; k++ {
			b.take()
			if !b.arrive(k*gap) || !b.l.Masked() {
				t.Fatalf("of %d: Arrive(%d): Masked %t", gap, k*gap, b.l.Masked())
			}
			b.check()
		}
		b.take()
		if !b.tick(20*gap) || b.l.Masked() {
			t.Fatalf("of %d: Tick(%d): Masked %t", gap, 20*gap, b.l.Masked())
		}
		b.check()
	}
}

// P14.1: Pending takes nothing away, however often; Take does, once: behind it nothing is pending, and all else stays.
func TestPendingAndTake(t *testing.T) {
	for _, gap := range gaps() {
		for _, at := range []int{0, 1, 77, 1 << 31, 1<<32 + 1, most - 1, most, most + 1, math.MaxInt} {
			for _, back := range []bool{false, true} {
				b := made(t, gap)
				b.arrive(at)
				if back {
					b.arrive(at)
				}
				for range 3 {
					if got, ok := b.l.Pending(); got != at || !ok {
						t.Fatalf("of %d: Arrive(%d), Pending: %d %t", gap, at, got, ok)
					}
				}
				want := tell(b.l)
				if got, ok := b.take(); got != at || !ok {
					t.Fatalf("of %d: Arrive(%d), Take: %d %t", gap, at, got, ok)
				}
				want.at, want.pending = 0, false
				for range 3 {
					if got, ok := b.l.Pending(); got != 0 || ok {
						t.Fatalf("of %d: Take, Pending: %d %t", gap, got, ok)
					}
					if got, ok := b.take(); got != 0 || ok {
						t.Fatalf("of %d: Take once more: %d %t", gap, got, ok)
					}
					expect(t, "Take", b.l, want)
				}
			}
		}
	}
}

// P14.1: what Tick took is pending and taken like what came.
func TestTakeOfWhatTickTook(t *testing.T) {
	for _, gap := range gaps() {
		b := made(t, gap)
		b.arrive(3)
		b.arrive(3)
		b.take()
		b.tick(3 + gap + 2)
		for range 2 {
			if got, ok := b.l.Pending(); got != 5+gap || !ok {
				t.Errorf("of %d: Pending: %d %t", gap, got, ok)
			}
		}
		if got, ok := b.take(); got != 5+gap || !ok {
			t.Errorf("of %d: Take: %d %t", gap, got, ok)
		}
		expect(t, "Take", b.l, told{next: 5 + 2*gap})
	}
}

// P14.1: Take makes room at once, but not ahead of the gap: when it is taken changes nothing of when the next one may come.
func TestTakeLate(t *testing.T) {
	for _, gap := range gaps() {
		for _, late := range []int{0, 1, gap - 1, gap, gap + 1, 10 * gap} {
			b := made(t, gap)
			b.arrive(0)
			b.arrive(late)
			b.take()
			if got := b.tick(late); got != (late >= gap) {
				t.Errorf("of %d, taken at %d: Tick: %t", gap, late, got)
			}
			b.check()
		}
	}
}

// P14.1: the sum of now and gap is num's: it stays at 2^40, from where on one may come at each moment, as come at just that.
func TestSumsAtTheMost(t *testing.T) {
	for _, gap := range gaps() {
		for _, at := range []int{most - gap - 1, most - gap, most - gap + 1, most - 1, most, most + 1, 1 << 62, math.MaxInt - gap, math.MaxInt - gap + 1, math.MaxInt} {
			b := made(t, gap)
			b.arrive(at)
			next := most
			if at < most-gap {
				next = at + gap
			}
			expect(t, "Arrive", b.l, told{at: at, pending: true, next: next})
			b.take()
			if b.arrive(next - 1) {
				t.Errorf("of %d behind %d: Arrive(%d)", gap, at, next-1)
			}
			if !b.tick(next) {
				t.Errorf("of %d behind %d: Tick(%d)", gap, at, next)
			}
			expect(t, "Tick", b.l, told{at: next, pending: true, next: most})
			b.take()
			b.arrive(0)
			if !b.tick(math.MaxInt) {
				t.Errorf("of %d behind %d: Tick of the greatest", gap, at)
			}
			expect(t, "Tick of the greatest", b.l, told{at: math.MaxInt, pending: true, next: most})
		}
	}
}

// P14.1: each step that may be tried in each state that a line can be in, at each moment about the next one, and what is told then.
func TestEachStepOfEachState(t *testing.T) {
	for gap := 1; gap <= 12; gap++ {
		for at := range 4 {
			for now := -2; now < at+3*gap; now++ {
				for call := range 3 {
					for _, b := range states(t, gap, at) {
						switch call {
						case 0:
							b.arrive(now)
						case 1:
							b.tick(now)
						case 2:
							b.take()
						}
						b.check()
					}
				}
			}
		}
	}
}

// Steps of plays: a call, and how far the clock goes ahead of it.
const (
	arriving = iota
	ticking
	taking
)

type step struct {
	call, ahead int
}

func (b both) do(s step, now int) {
	b.t.Helper()
	switch s.call {
	case arriving:
		b.arrive(now)
	case ticking:
		b.tick(now)
	case taking:
		b.take()
	}
}

// P14.1: all plays of up to five calls, each at the same moment as the one ahead, a tick or two later or one earlier; what is told is looked at behind each call of some, at the end of others.
func TestAllShortPlays(t *testing.T) {
	steps := []step{{taking, 0}}
	for _, ahead := range []int{0, 1, 2, -1} {
		steps = append(steps, step{arriving, ahead}, step{ticking, ahead})
	}
	for gap := 1; gap <= 3; gap++ {
		for length, plays := 1, len(steps); length <= 5; length, plays = length+1, plays*len(steps) {
			for play := range plays {
				b, now, rest := made(t, gap), 0, play
				for range length {
					s := steps[rest%len(steps)]
					rest /= len(steps)
					now += s.ahead
					b.do(s, now)
					if play%2 == 0 {
						b.check()
					}
				}
				b.check()
			}
		}
	}
}

// P14.1: long plays at each pace, with moments that go on, stand and fall back.
func TestLongPlays(t *testing.T) {
	for seed, gap := range gaps() {
		for pace := range 4 {
			r := rand.New(rand.NewSource(int64(10*seed + pace)))
			b, now := made(t, gap), -3
			for range 20000 {
				switch pace {
				case 0:
					now++
				case 1:
					now += r.Intn(3)
				case 2:
					now += r.Intn(gap + 2)
				case 3:
					now += r.Intn(2*gap+3) - gap/2
				}
				b.do(step{call: r.Intn(3)}, now)
				b.check()
			}
		}
	}
}

// P14.1: plays at strange moments, in any order.
func TestStrangePlays(t *testing.T) {
	moments := append(strange(), 0, 1, 2, 5, 1000)
	for seed, gap := range gaps() {
		r := rand.New(rand.NewSource(int64(seed)))
		for range 400 {
			b := made(t, gap)
			for range 30 {
				b.do(step{call: r.Intn(3)}, moments[r.Intn(len(moments))])
				b.check()
			}
		}
	}
}

// paces say of a tick how many interrupts come then: one, many, few, in bursts, none for long, at random.
func paces(gap int) []func(now int, r *rand.Rand) int {
	return []func(now int, r *rand.Rand) int{
		func(int, *rand.Rand) int { return 1 },
		func(int, *rand.Rand) int { return 5 },
		func(now int, _ *rand.Rand) int { return only(now % (2*gap + 1)) },
		func(now int, _ *rand.Rand) int { return only(now % gap) },
		func(now int, _ *rand.Rand) int { return only(now % (gap + 1)) },
		func(now int, _ *rand.Rand) int { return only(now % max(gap-1, 1)) },
		func(now int, _ *rand.Rand) int { return only(now / (gap + 3) % 2) },
		func(_ int, r *rand.Rand) int { return only(r.Intn(gap + 1)) },
		func(_ int, r *rand.Rand) int { return r.Intn(3) },
		func(int, *rand.Rand) int { return 0 },
	}
}

// only is 1 of 0, and 0 of all else.
func only(x int) int {
	if x == 0 {
		return 1
	}
	return 0
}

// apart holds that of any two of these moments, in order, the gap is kept, whichever two they are.
func apart(t *testing.T, gap int, moments []int) {
	t.Helper()
	if !slices.IsSorted(moments) {
		t.Errorf("of %d: not in order: %v", gap, moments)
	}
	for i := 1; i < len(moments); i++ {
		if moments[i]-moments[i-1] < gap {
			t.Errorf("of %d: %d behind %d", gap, moments[i], moments[i-1])
		}
	}
}

// P14.2: of plays of many arrivals and ticks, fast, slow and mixed, taken at once, late or now and then, any two that were taken are the gap apart at least; where one comes at each tick, and each is taken at once, they are just that.
func TestGaps(t *testing.T) {
	const ticks = 6000
	for seed, gap := range gaps() {
		for p, pace := range paces(gap) {
			for _, patience := range []int{1, 2, 7, gap, gap + 1, 3 * gap} {
				r := rand.New(rand.NewSource(int64(1000*seed + p)))
				b, taken, came := made(t, gap), []int{}, 0
				for now := range ticks {
					b.tick(now)
					for range pace(now, r) {
						came++
						b.arrive(now)
					}
					if now%patience != 0 {
						continue
					}
					if at, ok := b.take(); ok {
						taken = append(taken, at)
					}
				}
				apart(t, gap, taken)
				if most := (ticks + gap - 1) / gap; len(taken) > min(most, came) || p < 2 && patience == 1 && len(taken) != most {
					t.Errorf("of %d, pace %d, patience %d: %d of %d were taken", gap, p, patience, len(taken), came)
				}
				if came > 0 && len(taken) == 0 && patience < ticks {
					t.Errorf("of %d, pace %d, patience %d: none of %d was taken", gap, p, patience, came)
				}
			}
		}
	}
}

// P14.2: whatever order calls and moments come in, up to where sums are clipped, any two that were taken are the gap apart.
func TestGapsOfAnyMoments(t *testing.T) {
	for seed, gap := range gaps() {
		r := rand.New(rand.NewSource(int64(seed)))
		for range 200 {
			b, taken, now := made(t, gap), []int{}, r.Intn(3*gap)-gap
			if r.Intn(4) == 0 {
				now += most - 300*gap
			}
			for range 300 {
				now += r.Intn(gap+3) - gap/2
				moment := min(now, most-gap)
				switch r.Intn(3) {
				case 0:
					b.arrive(moment)
				case 1:
					b.tick(moment)
				case 2:
					if at, ok := b.take(); ok {
						taken = append(taken, at)
					}
				}
			}
			apart(t, gap, taken)
		}
	}
}

// R4, R5: what one line does changes nothing of another one, of the same gap or of another.
func TestLinesStandApart(t *testing.T) {
	list := []both{}
	for _, gap := range []int{5, 5, 1, 1000, 5, 1} {
		list = append(list, made(t, gap))
	}
	r := rand.New(rand.NewSource(14))
	for now := range 5000 {
		list[r.Intn(len(list))].do(step{call: r.Intn(3)}, now)
		for _, b := range list {
			b.check()
		}
	}
	idle, busy := made(t, 5), made(t, 5)
	for now := range 100 {
		busy.arrive(now)
		busy.tick(now)
		expect(t, "idle", idle.l, told{})
		busy.take()
		expect(t, "idle", idle.l, told{})
	}
}

// R3: of no line each call answers its zero value, whatever the moment.
func TestNil(t *testing.T) {
	var l *Line
	for _, now := range append(strange(), 0, 1, 5, 1000) {
		for range 2 {
			if l.Arrive(now) || l.Tick(now) {
				t.Errorf("Arrive(%d), Tick(%d)", now, now)
			}
			if at, ok := l.Take(); at != 0 || ok {
				t.Errorf("Take: %d %t", at, ok)
			}
			expect(t, "no line", l, told{})
		}
	}
}

// R5: New may be called from several goroutines, and lines of one know nothing of those of another one.
func TestMadeAtOneTime(t *testing.T) {
	var group sync.WaitGroup
	for n := range 16 {
		group.Go(func() {
			gap := n%4*7 + 1
			l, e := New(gap)
			if e != api.OK {
				t.Errorf("New(%d): %d", gap, e)
				return
			}
			b := bookOf(gap)
			for now := range 2000 {
				if l.Tick(now) != b.tick(now) || l.Arrive(now) != b.arrive(now) {
					t.Errorf("of %d: at %d", gap, now)
				}
				got, ok := l.Take()
				if want, wanted := b.take(); got != want || ok != wanted || l.Masked() != b.back || l.Next() != b.next() {
					t.Errorf("of %d: at %d: Take: %d %t", gap, now, got, ok)
				}
			}
		})
	}
	group.Wait()
}
