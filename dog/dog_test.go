package dog

import (
	"math"
	"math/rand"
	"slices"
	"sync"
	"testing"

	"coxswain/api"
)

// The chapter's way: the watch is handed marks as a function value, and Mark is such a one as a method value.
var (
	_ func(*watch, int, int, func(int)) bool = (*watch).tick
	_ func(int)                              = (&Dog{}).Mark
)

// From the document: the greatest number of ticks there is.
const most = 1 << 40

// clip is what the promise calls clipped.
func clip(x int) int { return min(max(x, 0), most) }

// book keeps all the moments that were marked and at which it fired, as the promise tells of them.
type book struct {
	asks  int
	marks []int
	fired []int
}

// last is the greatest of 0, all marks and all firings: a mark that is below the last one changes nothing, and a firing is above it.
func (b *book) last() int {
	return max(slices.Max(append([]int{0}, b.marks...)), slices.Max(append([]int{0}, b.fired...)))
}

func (b *book) mark(now int) { b.marks = append(b.marks, clip(now)) }

func (b *book) tick(now int) bool {
	if clip(now) < b.last()+b.asks {
		return false
	}
	b.fired = append(b.fired, clip(now))
	return true
}

// both is a dog and its book; each call is made of both.
type both struct {
	t *testing.T
	d *Dog
	b *book
}

func made(t *testing.T, w int) both {
	t.Helper()
	d, e := New(w)
	if e != api.OK || d == nil {
		t.Fatalf("New(%d): %v %d", w, d, e)
	}
	return both{t, d, &book{asks: w}}
}

func (b both) mark(now int) {
	b.d.Mark(now)
	b.b.mark(now)
}

func (b both) tick(now int) bool {
	b.t.Helper()
	got, want := b.d.Tick(now), b.b.tick(now)
	if got != want {
		b.t.Fatalf("of %d, Tick(%d): %t, not %t; last %d", b.b.asks, now, got, want, b.b.last())
	}
	return got
}

// check looks at all that a dog tells; twice, since looking changes nothing.
func (b both) check() {
	b.t.Helper()
	for range 2 {
		if got, want := b.d.Last(), b.b.last(); got != want {
			b.t.Fatalf("of %d, Last: %d, not %d", b.b.asks, got, want)
		}
		if got := b.d.Fired(); !slices.Equal(got, b.b.fired) {
			b.t.Fatalf("of %d, Fired: %v, not %v", b.b.asks, got, b.b.fired)
		}
	}
}

// expect holds what a dog tells against what is written out.
func expect(t *testing.T, what string, d *Dog, last int, fired ...int) {
	t.Helper()
	if got := d.Last(); got != last {
		t.Errorf("%s: Last: %d, not %d", what, got, last)
	}
	if got := d.Fired(); !slices.Equal(got, fired) {
		t.Errorf("%s: Fired: %v, not %v", what, got, fired)
	}
}

// numbers are those that New may be asked for: at the edges, and some between.
func numbers() []int {
	return []int{
		1, 2, 3, 5, 10, 63, 64, 100, 255, 256, 257, 999, 1000, 1001, 4096, 1 << 16, 1<<24 - 1, 1 << 24,
		1<<31 - 1, 1 << 31, 1<<32 - 1, 1 << 32, 1<<32 + 1, most / 2, most - 1000, most - 2, most - 1, most,
	}
}

// strange are moments far below and far above all that a kernel comes to, and at the edges of all kinds of numbers.
func strange() []int {
	return []int{
		math.MinInt, math.MinInt + 1, math.MinInt + 1000, -1 << 62, -most - 1, -most, -most + 1, -1 << 32, -1<<32 + 1, -1 << 31, -1<<31 - 1, -1 << 16,
		-1001, -1000, -256, -255, -5, -2, -1,
		1 << 16, 1<<31 - 1, 1 << 31, 1<<32 - 1, 1 << 32, 1<<32 + 1, most/2 - 1, most / 2, most - 1001, most - 1000, most - 2, most - 1,
		most, most + 1, most + 2, most + 1000, 1 << 41, 2*most - 1, 2*most + 1, 1 << 62, math.MaxInt - most, math.MaxInt - 1, math.MaxInt,
	}
}

// The chapter's example.
func TestExample(t *testing.T) {
	d, e := New(10)
	if e != api.OK {
		t.Fatalf("New(10): %d", e)
	}
	d.Mark(4)
	if d.Tick(13) || !d.Tick(14) || d.Tick(15) {
		t.Error("Tick(13), Tick(14), Tick(15)")
	}
	if got := d.Fired(); !slices.Equal(got, []int{14}) {
		t.Errorf("Fired: %v", got)
	}
}

// P15.1: New of a number that is not from 1 to 2^40 is ErrArg, and there is no dog.
func TestNewOfNumbersThatMayNotBe(t *testing.T) {
	for _, w := range []int{
		0, -1, -2, -10, -255, -256, -1000, -1 << 16, -1 << 31, -1<<31 - 1, -1 << 32, -1<<32 + 1, -most + 1, -most, -most - 1, -1 << 62,
		math.MinInt + most, math.MinInt + 10, math.MinInt + 1, math.MinInt,
		most + 1, most + 2, most + 10, most + 1<<32, 1 << 41, 1<<41 + 1, 1 << 62, math.MaxInt - most, math.MaxInt - 1, math.MaxInt,
	} {
		if d, e := New(w); d != nil || e != api.ErrArg {
			t.Errorf("New(%d): %v %d", w, d, e)
		}
	}
}

// P15.1: New of a number from 1 to 2^40: the last mark is 0, it never fired, and fires at just that moment first.
func TestNew(t *testing.T) {
	for _, w := range numbers() {
		b := made(t, w)
		expect(t, "New", b.d, 0)
		b.check()
		if b.tick(w - 1) {
			t.Errorf("of %d: Tick(%d)", w, w-1)
		}
		expect(t, "ahead", b.d, 0)
		if !b.tick(w) {
			t.Errorf("of %d: Tick(%d)", w, w)
		}
		expect(t, "at", b.d, w, w)
	}
	for w := 1; w <= 2000; w++ {
		b := made(t, w)
		for now := range w {
			b.d.Tick(now)
		}
		expect(t, "each tick ahead", b.d, 0)
		b.tick(w)
		expect(t, "at", b.d, w, w)
	}
}

// P15.1: Mark of a moment below the last mark changes nothing, of just that one neither; of a later one that is the last mark; each of them clipped.
func TestMark(t *testing.T) {
	lasts := append(strange(), 0, 1, 2, 7, 1000)
	for _, w := range []int{1, 10, most} {
		for _, last := range lasts {
			from := clip(last)
			for _, now := range append(strange(), 0, 1, from-1000, from-1, from, from+1, from+1000) {
				b := made(t, w)
				b.mark(last)
				expect(t, "a mark", b.d, from)
				for range 3 {
					b.mark(now)
					if now <= from {
						expect(t, "an earlier mark, or that one", b.d, from)
					} else {
						expect(t, "a later mark", b.d, clip(now))
					}
				}
				b.mark(last)
				expect(t, "the first mark once more", b.d, max(from, clip(now)))
			}
		}
	}
}

// P15.1: what is marked counts from that moment on: the dog fires as many behind it as it asks, whatever earlier moments were marked beside it.
func TestMarksPutOff(t *testing.T) {
	for _, w := range []int{1, 2, 10, 1000, most / 4} {
		for _, now := range []int{0, 1, 4, 5, 1000, 1 << 31, most / 2} {
			for _, other := range []int{math.MinInt, -1, 0, now - 1, now} {
				b := made(t, w)
				b.mark(now)
				b.mark(other)
				if b.tick(now+w-1) || !b.tick(now+w) {
					t.Errorf("of %d, marked %d and %d", w, now, other)
				}
				expect(t, "fired", b.d, now+w, now+w)
			}
		}
	}
}

// P15.1: Tick of moments ahead of the one at which it fires, of just that one, of later ones, clipped; ahead of it nothing changes, at or behind it the moment is the last mark and one of Fired.
func TestTick(t *testing.T) {
	for _, w := range numbers() {
		for _, last := range []int{0, 1, 4, 1000, 1 << 32, most / 2, most - w - 1, most - w, most - w + 1, most - 1, most} {
			from := clip(last)
			at := from + w
			moments := []int{0, 1, from - 1, from, from + 1, at - 2, at - 1, at, at + 1, at + w - 1, at + w, at + 5*w}
			for _, now := range append(moments, strange()...) {
				b := made(t, w)
				b.mark(last)
				fires := clip(now) >= at
				if got := b.tick(now); got != fires {
					t.Fatalf("of %d, last %d: Tick(%d): %t", w, from, now, got)
				}
				if fires {
					expect(t, "it fired", b.d, clip(now), clip(now))
				} else {
					expect(t, "it did not fire", b.d, from)
				}
			}
		}
	}
}

// P15.1: at 2^40 the clock stands: it fires there once, if as many are left as it asks, and no later moment makes it fire again.
func TestTickAtTheMost(t *testing.T) {
	for _, w := range numbers() {
		for _, late := range []int{0, 1, 1000, most, math.MaxInt - most} {
			b := made(t, w)
			b.mark(most - w)
			if b.tick(most-1) || !b.tick(most+late) {
				t.Errorf("of %d, marked %d: Tick(%d), Tick(%d)", w, most-w, most-1, most+late)
			}
			for range 3 {
				if b.tick(most) || b.tick(most+late) || b.tick(most+w) || b.tick(math.MaxInt) {
					t.Errorf("of %d: it fired at the most once more", w)
				}
			}
			expect(t, "fired at the most", b.d, most, most)
			b = made(t, w)
			b.mark(most - w + 1)
			if b.tick(most + late) {
				t.Errorf("of %d, marked %d: Tick(%d)", w, most-w+1, most+late)
			}
			expect(t, "one tick too few", b.d, most-w+1)
		}
	}
}

// P15.1: Tick ahead of its moment changes nothing, however often: neither the last mark, nor when it fires.
func TestTickAheadChangesNothing(t *testing.T) {
	for _, w := range []int{1, 2, 3, 10, 256, 1000, most / 2} {
		for _, last := range []int{0, 4, 1 << 32} {
			b := made(t, w)
			b.mark(last)
			for _, many := range []int{1, 2, 300} {
				for range many {
					for _, now := range []int{last + w - 1, last, 0, -1, math.MinInt, last + w/2} {
						if now < last+w && b.tick(now) {
							t.Fatalf("of %d, last %d: Tick(%d)", w, last, now)
						}
					}
				}
				expect(t, "ticks ahead", b.d, last)
			}
			if !b.tick(last + w) {
				t.Errorf("of %d, last %d: Tick(%d)", w, last, last+w)
			}
			expect(t, "behind these", b.d, last+w, last+w)
		}
	}
}

// P15.1: behind a firing the last mark is that moment, and not the one at which it might have fired: the next firing is as many behind it as it asks.
func TestBehindAFiring(t *testing.T) {
	for _, w := range []int{1, 2, 3, 10, 1000, 1 << 32} {
		for _, last := range []int{0, 4, 1 << 31} {
			for _, late := range []int{0, 1, w - 1, w, w + 1, 7 * w} {
				b := made(t, w)
				b.mark(last)
				now := last + w + late
				if !b.tick(now) {
					t.Fatalf("of %d, last %d: Tick(%d)", w, last, now)
				}
				expect(t, "fired", b.d, now, now)
				if b.tick(now) || b.tick(now+w-1) {
					t.Errorf("of %d, fired at %d: once more too early", w, now)
				}
				expect(t, "too early", b.d, now, now)
				if !b.tick(now + w) {
					t.Errorf("of %d, fired at %d: Tick(%d)", w, now, now+w)
				}
				expect(t, "fired twice", b.d, now+w, now, now+w)
			}
		}
	}
}

// P15.1: behind a firing a mark of an earlier moment changes nothing, of just that one neither; a later one puts the next firing off.
func TestMarkBehindAFiring(t *testing.T) {
	for _, w := range []int{1, 2, 10, 1000, 1 << 32} {
		for _, now := range []int{w, w + 1, 3 * w, 1 << 33} {
			for _, marked := range append(strange(), 0, now-w, now-1, now, now+1, now+w-1, now+w, now+2*w) {
				b := made(t, w)
				b.tick(now)
				b.mark(marked)
				last := max(now, clip(marked))
				expect(t, "marked behind a firing", b.d, last, now)
				if b.tick(last + w - 1) {
					t.Errorf("of %d, fired at %d, marked %d: Tick(%d)", w, now, marked, last+w-1)
				}
				if last+w > most {
					continue
				}
				if !b.tick(last + w) {
					t.Errorf("of %d, fired at %d, marked %d: Tick(%d)", w, now, marked, last+w)
				}
				expect(t, "fired again", b.d, last+w, now, last+w)
			}
		}
	}
}

// P15.1: Last behind each call.
func TestLast(t *testing.T) {
	b := made(t, 10)
	for _, s := range []struct {
		tick      bool
		now, last int
	}{
		{false, 4, 4}, {false, 2, 4}, {true, 13, 4}, {true, 3, 4}, {false, 4, 4}, {false, 5, 5}, {true, 14, 5}, {true, 15, 15}, {true, 24, 15},
		{false, 14, 15}, {false, 24, 24}, {true, 25, 24}, {true, 99, 99}, {false, -7, 99}, {true, -7, 99}, {false, most + 7, most}, {true, most + 70, most},
	} {
		if s.tick {
			b.tick(s.now)
		} else {
			b.mark(s.now)
		}
		for range 3 {
			if got := b.d.Last(); got != s.last {
				t.Errorf("%+v: %d", s, got)
			}
		}
	}
	expect(t, "the end", b.d, most, 15, 99)
}

// P15.1: Fired of a dog that never fired is empty, whatever was marked, and however often it ticked.
func TestNeverFired(t *testing.T) {
	for _, w := range []int{1, 2, 50, 1000} {
		b := made(t, w)
		for now := range 3000 {
			b.d.Mark(now)
			if b.d.Tick(now) || b.d.Tick(now+w-1) || len(b.d.Fired()) != 0 {
				t.Fatalf("of %d: it fired at %d", w, now)
			}
		}
		if got := b.d.Fired(); len(got) != 0 {
			t.Errorf("of %d: %v", w, got)
		}
	}
}

// P15.1: Fired behind one and many firings, in order; asked once and again.
func TestFired(t *testing.T) {
	for _, w := range []int{1, 2, 7, 100} {
		b := made(t, w)
		want, now := []int{}, 0
		for n := range 600 {
			now += w + n%3
			if !b.tick(now) {
				t.Fatalf("of %d: Tick(%d)", w, now)
			}
			want = append(want, now)
			for range 2 {
				if got := b.d.Fired(); !slices.Equal(got, want) {
					t.Fatalf("of %d: %v, not %v", w, got, want)
				}
			}
		}
	}
}

// P15.1: many firings, asked for at the end alone.
func TestManyFirings(t *testing.T) {
	const ticks = 200000
	for _, w := range []int{1, 2, 3, 10, 999} {
		d, _ := New(w)
		for now := range ticks + 1 {
			d.Tick(now)
		}
		got := d.Fired()
		if len(got) != ticks/w || d.Last() != ticks/w*w {
			t.Fatalf("of %d: fired %d times, last %d", w, len(got), d.Last())
		}
		for i, at := range got {
			if at != (i+1)*w {
				t.Fatalf("of %d: %d is at place %d", w, at, i)
			}
		}
	}
}

// R4: what is done to the row that Fired answered, its spare room too, changes nothing of what it answers next, nor of another row; and what the dog does changes nothing of the row.
func TestFiredIsNewMemory(t *testing.T) {
	for _, w := range []int{1, 3, 10} {
		b := made(t, w)
		for n := range 40 {
			one, two := b.d.Fired(), b.d.Fired()
			spare(one, -1)
			if got := b.d.Fired(); !slices.Equal(got, b.b.fired) || !slices.Equal(two, b.b.fired) {
				t.Fatalf("of %d, behind %d firings: %v and %v, not %v", w, n, got, two, b.b.fired)
			}
			_ = append(two, -2)
			whole := slices.Clone(one[:cap(one)])
			was := slices.Clone(two)
			if !b.tick((n + 1) * w) {
				t.Fatalf("of %d: Tick(%d)", w, (n+1)*w)
			}
			b.mark((n+1)*w + 1 - w)
			b.check()
			if !slices.Equal(one[:cap(one)], whole) || !slices.Equal(two, was) {
				t.Fatalf("of %d, behind %d firings: a row that was answered is another one", w, n)
			}
			if now := (n + 1) * w; b.d.Last() != now {
				t.Fatalf("of %d: Last: %d, not %d", w, b.d.Last(), now)
			}
		}
	}
}

// spare writes x into all of a row, and into the room behind it.
func spare(row []int, x int) {
	row = row[:cap(row)]
	for i := range row {
		row[i] = x
	}
}

// Steps of plays: a mark or a tick, and how far the clock goes ahead of it.
type step struct {
	tick  bool
	ahead int
}

func (b both) do(s step, now int) {
	b.t.Helper()
	if s.tick {
		b.tick(now)
	} else {
		b.mark(now)
	}
}

// P15.1: all plays of up to five calls, each at the same moment as the one ahead, some ticks later or some earlier; what is told is looked at behind each call of some, at the end of others.
func TestAllShortPlays(t *testing.T) {
	steps := []step{}
	for _, ahead := range []int{0, 1, 2, 5, -1, -3} {
		steps = append(steps, step{false, ahead}, step{true, ahead})
	}
	for w := 1; w <= 4; w++ {
		for length, plays := 1, len(steps); length <= 5; length, plays = length+1, plays*len(steps) {
			for play := range plays {
				b, now, rest := made(t, w), 0, play
				for range length {
					s := steps[rest%len(steps)]
					rest /= len(steps)
					now += s.ahead
					b.do(s, now)
					if play%5 == 0 {
						b.check()
					}
				}
				b.check()
			}
		}
	}
}

// P15.1: long plays at each pace, with moments that go on, stand and fall back.
func TestLongPlays(t *testing.T) {
	for seed, w := range []int{1, 2, 3, 10, 64, 255, 1000} {
		for pace := range 4 {
			for _, seldom := range []int{2, 10, 2 * w} {
				r := rand.New(rand.NewSource(int64(100*seed + 10*pace + seldom)))
				b, now := made(t, w), -3
				for range 600 {
					switch pace {
					case 0:
						now++
					case 1:
						now += r.Intn(3)
					case 2:
						now += r.Intn(w + 2)
					case 3:
						now += r.Intn(2*w+3) - w/2
					}
					b.do(step{tick: r.Intn(seldom) > 0}, now)
					b.check()
				}
			}
		}
	}
}

// P15.1: plays at strange moments, in any order, of any number that may be asked for.
func TestStrangePlays(t *testing.T) {
	moments := append(strange(), 0, 1, 2, 5, 1000)
	for seed, w := range numbers() {
		r := rand.New(rand.NewSource(int64(seed)))
		for range 300 {
			b := made(t, w)
			for range 20 {
				b.do(step{tick: r.Intn(3) > 0}, moments[r.Intn(len(moments))])
				b.check()
			}
		}
	}
}

// paces say of a tick whether something goes on then: ever, never, now and then, in bursts, just too late, at random.
func paces(w int) []func(now int, r *rand.Rand) bool {
	return []func(now int, r *rand.Rand) bool{
		func(int, *rand.Rand) bool { return true },
		func(int, *rand.Rand) bool { return false },
		func(now int, _ *rand.Rand) bool { return now%max(w-1, 1) == 0 },
		func(now int, _ *rand.Rand) bool { return now%w == 0 },
		func(now int, _ *rand.Rand) bool { return now%(w+1) == 0 },
		func(now int, _ *rand.Rand) bool { return now%(2*w+1) == 0 },
		func(now int, _ *rand.Rand) bool { return now/(3*w)%2 == 0 },
		func(now int, _ *rand.Rand) bool { return now > 10*w },
		func(_ int, r *rand.Rand) bool { return r.Intn(w) == 0 },
		func(_ int, r *rand.Rand) bool { return r.Intn(2*w) == 0 },
		func(_ int, r *rand.Rand) bool { return r.Intn(2) == 0 },
	}
}

// P15.1: of plays of many marks and ticks, a tick at each moment as a kernel gives them, it fires just when as many have gone since the last mark, or firing, as it asks: counted here one by one, without a moment.
func TestFiresJustThen(t *testing.T) {
	for seed, w := range []int{1, 2, 3, 5, 10, 64, 100, 999, 1000, 4096} {
		for p, pace := range paces(w) {
			r := rand.New(rand.NewSource(int64(100*seed + p)))
			d, _ := New(w)
			gone, fired := 0, []int{}
			for now := range 20*w + 500 {
				if now > 0 {
					gone++
				}
				if pace(now, r) {
					d.Mark(now)
					gone = 0
				}
				fires := gone == w
				if fires {
					gone = 0
					fired = append(fired, now)
				}
				if got := d.Tick(now); got != fires {
					t.Fatalf("of %d, pace %d: Tick(%d): %t", w, p, now, got)
				}
				if got := d.Last(); got != now-gone {
					t.Fatalf("of %d, pace %d: Last at %d: %d, not %d", w, p, now, got, now-gone)
				}
			}
			if got := d.Fired(); !slices.Equal(got, fired) {
				t.Errorf("of %d, pace %d: %v, not %v", w, p, got, fired)
			}
			if p == 0 && len(fired) > 0 || p == 1 && len(fired) < 20 {
				t.Errorf("of %d, pace %d: it fired %d times", w, p, len(fired))
			}
		}
	}
}

// R4, R5: what one dog does changes nothing of another one, of the same number or of another.
func TestDogsStandApart(t *testing.T) {
	list := []both{}
	for _, w := range []int{5, 5, 1, 1000, 5, 1, most} {
		list = append(list, made(t, w))
	}
	r := rand.New(rand.NewSource(15))
	for now := range 1200 {
		list[r.Intn(len(list))].do(step{tick: r.Intn(3) > 0}, now)
		for _, b := range list {
			b.check()
		}
	}
	idle, busy := made(t, 5), made(t, 5)
	for now := range 100 {
		busy.tick(now)
		busy.mark(now + now%7)
		busy.d.Fired()
		expect(t, "idle", idle.d, 0)
	}
	if idle.tick(4) || !idle.tick(5) {
		t.Error("idle: Tick(4), Tick(5)")
	}
	expect(t, "idle no more", idle.d, 5, 5)
}

// R3: of no dog Mark does nothing, and each other call answers its zero value, whatever the moment.
func TestNil(t *testing.T) {
	var d *Dog
	for _, now := range append(strange(), 0, 1, 5, 1000) {
		for range 2 {
			d.Mark(now)
			if d.Tick(now) {
				t.Errorf("Tick(%d)", now)
			}
			expect(t, "no dog", d, 0)
		}
	}
}

// R5: New may be called from several goroutines, and dogs of one know nothing of those of another one.
func TestMadeAtOneTime(t *testing.T) {
	var group sync.WaitGroup
	for n := range 16 {
		group.Go(func() {
			w := n%4*7 + 1
			d, e := New(w)
			if e != api.OK {
				t.Errorf("New(%d): %d", w, e)
				return
			}
			b := &book{asks: w}
			for now := range 400 {
				if now%(w+3) == 0 {
					d.Mark(now)
					b.mark(now)
				}
				if d.Tick(now) != b.tick(now) || d.Last() != b.last() {
					t.Errorf("of %d: at %d", w, now)
				}
			}
			if got := d.Fired(); !slices.Equal(got, b.fired) {
				t.Errorf("of %d: %v, not %v", w, got, b.fired)
			}
		})
	}
	group.Wait()
}
