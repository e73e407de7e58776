package wheel

import (
	"math"
	"slices"
	"testing"

	"coxswain/api"
)

// The chapter's way: what is done to a slot is chosen by rings, of methods of the wheel.
var _ func() [4]func(*Wheel, []int) ([]int, int) = deeds

// last is the last moment, from the document's limits.
const last = 1<<24 - 1

// timer is one that is armed: when it goes off, and how often it was moved so far.
type timer struct{ id, at, moves int }

// rows keeps timers as the promises tell them, in one list without rings or slots.
type rows struct {
	now  int
	list []timer
}

// stand is the document's rule of where a timer stands that goes off at at: from the topmost digit down, the first one that is unlike.
func stand(now int, at int) (int, int) {
	for ring := 3; ring >= 0; ring-- {
		if a, b := now>>(6*ring)&63, at>>(6*ring)&63; a != b {
			return ring, b
		}
	}
	return -1, -1
}

// index is where id is in the list; -1 if it is not armed.
func (r *rows) index(id int) int {
	return slices.IndexFunc(r.list, func(x timer) bool { return x.id == id })
}

func (r *rows) arm(id int, at int) api.Errno {
	switch {
	case id < 0 || at <= r.now || at > last:
		return api.ErrArg
	case r.index(id) >= 0:
		return api.ErrBusy
	case len(r.list) == 64:
		return api.ErrFull
	}
	r.list = append(r.list, timer{id: id, at: at})
	return api.OK
}

func (r *rows) cancel(id int) bool {
	k := r.index(id)
	if k < 0 {
		return false
	}
	r.list = slices.Delete(r.list, k, k+1)
	return true
}

func (r *rows) tick() ([]int, int) {
	if r.now == last {
		return nil, 0
	}
	ahead := r.now
	r.now++
	off, stay, moved := []int{}, []timer{}, 0
	for _, x := range r.list {
		if x.at == r.now {
			off = append(off, x.id)
			continue
		}
		was, _ := stand(ahead, x.at)
		is, _ := stand(r.now, x.at)
		if was != is {
			x.moves++
			moved++
		}
		stay = append(stay, x)
	}
	r.list = stay
	slices.Sort(off)
	return off, moved
}

// both is a wheel, and the same as rows.
type both struct {
	w *Wheel
	r *rows
}

// made answers a new wheel at that moment.
func made(t *testing.T, now int) both {
	t.Helper()
	w, e := New(now)
	if w == nil || e != api.OK {
		t.Fatalf("New(%d): %d", now, e)
	}
	return both{w, &rows{now: now}}
}

// armed answers a new wheel at that moment with timers 0, 1, .. that go off at these moments.
func armed(t *testing.T, now int, moments ...int) both {
	t.Helper()
	b := made(t, now)
	for id, at := range moments {
		if e := b.arm(t, id, at); e != api.OK {
			t.Fatalf("New(%d), Arm(%d, %d): %d", now, id, at, e)
		}
	}
	return b
}

// arm arms id of the wheel and of the rows.
func (b both) arm(t *testing.T, id int, at int) api.Errno {
	t.Helper()
	e := b.w.Arm(id, at)
	if due := b.r.arm(id, at); e != due {
		t.Fatalf("at %d: Arm(%d, %d): %d, not %d", b.r.now, id, at, e, due)
	}
	return e
}

// cancel cancels id of the wheel and of the rows.
func (b both) cancel(t *testing.T, id int) bool {
	t.Helper()
	ok := b.w.Cancel(id)
	if due := b.r.cancel(id); ok != due {
		t.Fatalf("at %d: Cancel(%d): %t, not %t", b.r.now, id, ok, due)
	}
	return ok
}

// tick lets the wheel and the rows go on by a moment.
func (b both) tick(t *testing.T) ([]int, int) {
	t.Helper()
	off, moved := b.w.Tick()
	if due, moves := b.r.tick(); !slices.Equal(off, due) || moved != moves {
		t.Fatalf("Tick to %d: %v %d, not %v %d", b.r.now, off, moved, due, moves)
	}
	return off, moved
}

// ticks lets both go on to that moment.
func (b both) ticks(t *testing.T, to int) {
	t.Helper()
	for b.r.now < to {
		b.tick(t)
	}
}

// check asks all that the wheel tells without being changed.
func (b both) check(t *testing.T, what string) {
	t.Helper()
	if got := b.w.Now(); got != b.r.now {
		t.Fatalf("%s: Now %d, not %d", what, got, b.r.now)
	}
	if got := b.w.Len(); got != len(b.r.list) {
		t.Fatalf("%s: at %d: Len %d, not %d", what, b.r.now, got, len(b.r.list))
	}
	for _, x := range b.r.list {
		if at, ok := b.w.At(x.id); at != x.at || !ok {
			t.Fatalf("%s: at %d: At(%d): %d %t, not %d", what, b.r.now, x.id, at, ok, x.at)
		}
		ring, slot := stand(b.r.now, x.at)
		if gotRing, gotSlot, ok := b.w.Place(x.id); gotRing != ring || gotSlot != slot || !ok {
			t.Fatalf("%s: at %d: Place(%d), which goes off at %d: %d %d %t, not %d %d", what, b.r.now, x.id, x.at, gotRing, gotSlot, ok, ring, slot)
		}
	}
	for _, id := range append(strangers(), 0, 1, 2, 3, 63, 64, 65) {
		if b.r.index(id) >= 0 {
			continue
		}
		at, ok := b.w.At(id)
		ring, slot, is := b.w.Place(id)
		if at != 0 || ok || ring != 0 || slot != 0 || is {
			t.Fatalf("%s: at %d: At(%d): %d %t, Place: %d %d %t", what, b.r.now, id, at, ok, ring, slot, is)
		}
	}
}

// strangers are numbers that are neither a moment nor an ID of these tests: the least and the greatest, and those that would be well if their higher bits were lost.
func strangers() []int {
	return []int{
		math.MinInt, math.MinInt + 1, math.MinInt + 64, math.MinInt32, -1 << 32, -1<<32 + 1, -1 << 24, -4096, -65, -64, -63, -2, -1,
		1 << 24, 1<<24 + 1, 1<<24 + 64, 1 << 30, math.MaxInt32, 1 << 32, 1<<32 + 1, 1<<32 + 70, 1 << 62, math.MaxInt - 1, math.MaxInt,
	}
}

// edges are moments: the first and the last, and those at which digits become 0, with those beside them.
func edges() []int {
	list := []int{0, 1, 2, 100, last - 2, last - 1, last}
	for _, m := range []int{64, 128, 4096, 8192, 4096 * 63, 1 << 18, 2 << 18, 1<<18 + 4096, 1<<18 + 4096 + 64, 63 << 18, 1<<24 - 4096, 1<<24 - 64} {
		list = append(list, m-1, m, m+1)
	}
	return list
}

// P6.1, P6.2: the document's examples.
func TestExamples(t *testing.T) {
	w, _ := New(0)
	w.Arm(1, 64)
	if ring, slot, ok := w.Place(1); ring != 1 || slot != 1 || !ok {
		t.Errorf("Place(1): %d %d %t", ring, slot, ok)
	}
	for range 63 {
		if off, moved := w.Tick(); len(off) != 0 || moved != 0 {
			t.Errorf("Tick to %d: %v %d", w.Now(), off, moved)
		}
	}
	if off, moved := w.Tick(); !slices.Equal(off, []int{1}) || moved != 0 {
		t.Errorf("Tick to %d: %v %d", w.Now(), off, moved)
	}
	w, _ = New(0)
	w.Arm(2, 65)
	if ring, slot, ok := w.Place(2); ring != 1 || slot != 1 || !ok {
		t.Errorf("Place(2): %d %d %t", ring, slot, ok)
	}
	moves := 0
	for range 64 {
		_, moved := w.Tick()
		moves += moved
	}
	if ring, slot, ok := w.Place(2); ring != 0 || slot != 1 || !ok || moves != 1 {
		t.Errorf("Place(2): %d %d %t, %d were moved", ring, slot, ok, moves)
	}
}

// P6.1: New of each moment about the bounds, and of what is none.
func TestNew(t *testing.T) {
	for _, now := range edges() {
		b := made(t, now)
		b.check(t, "new")
		b.tick(t)
		b.check(t, "new, a tick behind")
	}
	for _, now := range strangers() {
		if w, e := New(now); w != nil || e != api.ErrArg {
			t.Errorf("New(%d): %v %d", now, w != nil, e)
		}
	}
}

// P6.1: Arm takes the moments behind the present one up to the last, and no others.
func TestArmMoments(t *testing.T) {
	for _, now := range edges() {
		moments := append(strangers(), edges()...)
		for beside := -70; beside <= 70; beside++ {
			moments = append(moments, now+beside)
		}
		for _, at := range moments {
			b := made(t, now)
			want := api.ErrArg
			if at > now && at <= last {
				want = api.OK
			}
			if e := b.arm(t, 7, at); e != want {
				t.Errorf("at %d: Arm(7, %d): %d, not %d", now, at, e, want)
			}
			b.check(t, "armed")
		}
	}
}

// P6.1: Arm takes all IDs from 0 on, the greatest too.
func TestArmIDs(t *testing.T) {
	b := made(t, 60)
	for _, id := range append(strangers(), 0, 1, 63, 64, 65) {
		want := api.OK
		if id < 0 {
			want = api.ErrArg
		}
		if e := b.arm(t, id, 70); e != want {
			t.Errorf("Arm(%d, 70): %d, not %d", id, e, want)
		}
	}
	b.check(t, "armed")
	b.ticks(t, 69)
	if off, moved := b.tick(t); moved != 0 || len(off) != 16 || off[0] != 0 || off[15] != math.MaxInt {
		t.Errorf("Tick to 70: %v %d", off, moved)
	}
	b.check(t, "gone off")
}

// P6.1: an ID that is armed is busy, whatever its moment, until it is cancelled or goes off.
func TestArmBusy(t *testing.T) {
	b := armed(t, 60, 64, 5000)
	for _, at := range []int{61, 64, 65, 5000, last} {
		for id := range 2 {
			if e := b.arm(t, id, at); e != api.ErrBusy {
				t.Errorf("Arm(%d, %d): %d", id, at, e)
			}
		}
	}
	b.check(t, "busy")
	b.cancel(t, 1)
	if e := b.arm(t, 1, 4096); e != api.OK {
		t.Errorf("cancelled: Arm(1, 4096): %d", e)
	}
	b.ticks(t, 64)
	if e := b.arm(t, 0, 65); e != api.OK {
		t.Errorf("gone off: Arm(0, 65): %d", e)
	}
	b.check(t, "armed again")
	b.ticks(t, 5100)
	b.check(t, "gone off")
}

// full answers a wheel at that moment with as many timers as may be, every third of them at the next moment.
func full(t *testing.T, now int) both {
	t.Helper()
	b := made(t, now)
	for id := range 64 {
		at := now + 1
		if id%3 > 0 {
			at += id * 130
		}
		if e := b.arm(t, id, at); e != api.OK {
			t.Fatalf("Arm(%d, %d): %d", id, at, e)
		}
	}
	return b
}

// P6.1: MaxTimers are armed and no more; each that is cancelled or goes off makes room for one.
func TestArmFull(t *testing.T) {
	for _, now := range []int{0, 63, 4095, 1<<18 - 1} {
		b := full(t, now)
		if e := b.arm(t, 64, now+1); e != api.ErrFull || b.w.Len() != 64 {
			t.Errorf("at %d: Arm of the 65th: %d, Len %d", now, e, b.w.Len())
		}
		b.check(t, "full")
		b.cancel(t, 5)
		if b.arm(t, 64, now+9) != api.OK || b.arm(t, 65, now+9) != api.ErrFull {
			t.Errorf("at %d: Arm beside 63 others", now)
		}
		if off, _ := b.tick(t); len(off) != 22 {
			t.Errorf("at %d: %v go off", now, off)
		}
		for id := 70; id < 92; id++ {
			if e := b.arm(t, id, now+50); e != api.OK {
				t.Errorf("at %d: Arm(%d, %d): %d", now, id, now+50, e)
			}
		}
		if e := b.arm(t, 92, now+50); e != api.ErrFull {
			t.Errorf("at %d: Arm of the 65th: %d", now, e)
		}
		b.check(t, "full again")
		b.ticks(t, now+9000)
		b.check(t, "emptied")
	}
}

// P6.1 and R6: ErrArg is answered ahead of ErrBusy, this ahead of ErrFull.
func TestArmErrorsOrder(t *testing.T) {
	b := full(t, 100)
	for _, x := range []struct {
		id, at int
		want   api.Errno
	}{
		{-1, 101, api.ErrArg}, {-1, 100, api.ErrArg}, {1, 100, api.ErrArg}, {1, 0, api.ErrArg}, {1, last + 1, api.ErrArg},
		{64, 100, api.ErrArg}, {64, last + 1, api.ErrArg}, {1, 101, api.ErrBusy}, {63, last, api.ErrBusy}, {64, 101, api.ErrFull}, {math.MaxInt, last, api.ErrFull},
	} {
		if e := b.arm(t, x.id, x.at); e != x.want {
			t.Errorf("Arm(%d, %d): %d, not %d", x.id, x.at, e, x.want)
		}
	}
	b.check(t, "refused")
}

// P6.1: Cancel takes out one timer, whichever stands with it, and once.
func TestCancel(t *testing.T) {
	moments := []int{62, 63, 64, 64, 64, 64, 100, 4096, 4096, 5000, 1 << 18, 1<<18 + 4096, 1<<18 + 4096, last}
	for out := range moments {
		for _, at := range []int{60, 63, 64, 4095} {
			b := armed(t, 60, moments...)
			b.ticks(t, at)
			there := moments[out] > at
			if b.cancel(t, out) != there || b.cancel(t, out) {
				t.Errorf("at %d: Cancel(%d)", at, out)
			}
			b.check(t, "cancelled")
			for range 70 {
				b.tick(t)
			}
			b.check(t, "cancelled, and 70 ticks behind")
		}
	}
	b := armed(t, 60, moments...)
	for _, id := range append(strangers(), 14, 62, 64) {
		if b.cancel(t, id) {
			t.Errorf("Cancel(%d)", id)
		}
	}
	b.check(t, "none of it cancelled")
	for id := range moments {
		b.cancel(t, (id*5)%len(moments))
	}
	if b.w.Len() != 0 {
		t.Errorf("all cancelled: Len %d", b.w.Len())
	}
	for range 5000 {
		if off, moved := b.tick(t); len(off) != 0 || moved != 0 {
			t.Fatalf("all cancelled: Tick to %d: %v %d", b.w.Now(), off, moved)
		}
	}
}

// P6.1: places in each of the four rings, written out.
func TestPlaces(t *testing.T) {
	for _, x := range []struct{ now, at, ring, slot int }{
		{0, 1, 0, 1}, {0, 63, 0, 63}, {62, 63, 0, 63}, {64, 65, 0, 1}, {70, 127, 0, 63},
		{0, 64, 1, 1}, {63, 64, 1, 1}, {63, 127, 1, 1}, {0, 128, 1, 2}, {0, 4095, 1, 63}, {4096 + 64, 4096 + 128, 1, 2},
		{0, 4096, 2, 1}, {4095, 4096, 2, 1}, {4095, 8191, 2, 1}, {0, 8192, 2, 2}, {0, 262143, 2, 63}, {262144 + 70, 262144 + 4096, 2, 1},
		{0, 262144, 3, 1}, {262143, 262144, 3, 1}, {262143, 524287, 3, 1}, {0, 524288, 3, 2}, {0, last, 3, 63}, {63<<18 - 1, 63 << 18, 3, 63},
		{last - 1, last, 0, 63}, {last - 64, last, 1, 63}, {last - 4096, last, 2, 63}, {last - 262144, last, 3, 63},
	} {
		b := armed(t, x.now, x.at)
		if ring, slot, ok := b.w.Place(0); ring != x.ring || slot != x.slot || !ok {
			t.Errorf("at %d: Place of one that goes off at %d: %d %d %t, not %d %d", x.now, x.at, ring, slot, ok, x.ring, x.slot)
		}
		if at, ok := b.w.At(0); at != x.at || !ok {
			t.Errorf("At: %d %t, not %d", at, ok, x.at)
		}
	}
}

// P6.1: every ring and every slot, from each of the moments at the edges.
func TestAllPlaces(t *testing.T) {
	for _, now := range edges() {
		for ring := range 4 {
			for slot := range 64 {
				base := now&^(1<<(6*ring+6)-1) | slot<<(6*ring)
				for _, rest := range []int{0, 1<<(6*ring) - 1} {
					b := made(t, now)
					b.arm(t, 3, base|rest)
					b.check(t, "a slot")
				}
			}
		}
	}
}

// P6.1, P6.2: a timer at the next moment goes off at once and is not moved, even if each of its digits changes.
func TestNextMoment(t *testing.T) {
	for _, now := range edges() {
		if now == last {
			continue
		}
		b := made(t, now)
		b.arm(t, 5, now+1)
		b.check(t, "the next moment")
		if off, moved := b.tick(t); !slices.Equal(off, []int{5}) || moved != 0 || b.w.Len() != 0 {
			t.Errorf("Tick to %d: %v %d, Len %d", now+1, off, moved, b.w.Len())
		}
		b.check(t, "gone off")
		if now+1 < last && b.arm(t, 5, now+2) != api.OK {
			t.Errorf("at %d: armed again", now+1)
		}
	}
}

// P6.2: at the last moment a tick does nothing, however often; what goes off there went off at the tick ahead.
func TestLastMoment(t *testing.T) {
	b := armed(t, last-130, last, last-1, last, last-64, last-129, last-63)
	b.ticks(t, last-1)
	b.check(t, "one ahead of the last moment")
	if e := b.arm(t, 9, last); e != api.OK {
		t.Errorf("Arm(9, last): %d", e)
	}
	if off, moved := b.tick(t); !slices.Equal(off, []int{0, 2, 9}) || moved != 0 {
		t.Errorf("Tick to the last moment: %v %d", off, moved)
	}
	for range 3 {
		if off, moved := b.w.Tick(); len(off) != 0 || moved != 0 || b.w.Now() != last || b.w.Len() != 0 {
			t.Errorf("Tick at the last moment: %v %d, Now %d", off, moved, b.w.Now())
		}
		for _, at := range []int{0, last - 1, last, last + 1, math.MaxInt} {
			if e := b.arm(t, 0, at); e != api.ErrArg {
				t.Errorf("at the last moment: Arm(0, %d): %d", at, e)
			}
		}
	}
	b.check(t, "the last moment")
}

// P6.2: at one tick timers go off and are moved into each of the rings below; what stands elsewhere stays.
func TestManyAtOneTick(t *testing.T) {
	b := armed(t, 1<<18-1,
		1<<18, 1<<18+1, 1<<18+63, 1<<18+64, 1<<18+4095, 1<<18+4096, 2<<18-1, 2<<18, last, 1<<18)
	if off, moved := b.tick(t); !slices.Equal(off, []int{0, 9}) || moved != 6 {
		t.Errorf("Tick to 2^18: %v %d", off, moved)
	}
	for id, want := range map[int][2]int{1: {0, 1}, 2: {0, 63}, 3: {1, 1}, 4: {1, 63}, 5: {2, 1}, 6: {2, 63}, 7: {3, 2}, 8: {3, 63}} {
		if ring, slot, ok := b.w.Place(id); ring != want[0] || slot != want[1] || !ok {
			t.Errorf("Place(%d): %d %d %t, not %v", id, ring, slot, ok, want)
		}
	}
	b.check(t, "moved")
	b = armed(t, 4095, 4096, 4097, 4160, 4095+64, 8191, 8192, 4096, 4099)
	if off, moved := b.tick(t); !slices.Equal(off, []int{0, 6}) || moved != 5 {
		t.Errorf("Tick to 4096: %v %d", off, moved)
	}
	b = armed(t, 63, 127, 64, 65, 128, 66, 4096, 64)
	if off, moved := b.tick(t); !slices.Equal(off, []int{1, 6}) || moved != 3 {
		t.Errorf("Tick to 64: %v %d", off, moved)
	}
}

// P6.2: those that go off at one moment are told rising, in whatever order, from whatever ring and whenever they were armed.
func TestRising(t *testing.T) {
	for _, now := range []int{0, 1, 4000, 1<<18 - 70, 1<<18 - 9} {
		for _, to := range []int{1 << 18, 4096, 4099, 64 * 70, 64*70 + 1, 1<<18 + 64} {
			if to <= now || to-now > 10000 {
				continue
			}
			b := made(t, now)
			for k := 0; b.r.now < to-1; k++ {
				if left := to - b.r.now; left == 2 || left < 40 || left%997 == 0 || k == 0 {
					b.arm(t, 1000-k*37%1001, to)
				}
				b.tick(t)
			}
			off, moved := b.tick(t)
			if !slices.IsSorted(off) || len(off) == 0 || moved != 0 || b.w.Len() != 0 {
				t.Errorf("from %d: Tick to %d: %v %d, Len %d", now, to, off, moved, b.w.Len())
			}
		}
	}
	b := made(t, 10)
	for k := range 64 {
		b.arm(t, k*37%64, 20)
	}
	b.ticks(t, 19)
	if off, _ := b.tick(t); len(off) != 64 || !slices.IsSorted(off) {
		t.Errorf("64 of one moment: %v", off)
	}
}

// P6.3: over all moments there are, each of 64 timers goes off once, at its moment, and is moved three times at most; some are so often.
func TestAllMoments(t *testing.T) {
	b := made(t, 0)
	for id := range 64 {
		at := 1 + id*id*id*67%(last-1)
		if id == 63 {
			at = last
		}
		if id == 62 {
			at = 5<<18 | 6<<12 | 7<<6 | 8
		}
		b.arm(t, id, at)
	}
	want := slices.Clone(b.r.list)
	slices.SortStableFunc(want, func(x timer, y timer) int { return x.at - y.at })
	ticks, total := 0, 0
	rings, moves := [64]int{}, [64]int{}
	for id := range 64 {
		rings[id], _, _ = b.w.Place(id)
	}
	for b.w.Len() > 0 && ticks < 1<<24 {
		off, moved := b.w.Tick()
		ticks++
		total += moved
		for _, id := range off {
			if len(want) == 0 || want[0].id != id || want[0].at != ticks {
				t.Fatalf("%d goes off at %d, where the first of %v should", id, ticks, want)
			}
			want = want[1:]
		}
		if ticks%64 != 0 {
			continue
		}
		for _, x := range want {
			if ring, _, ok := b.w.Place(x.id); !ok || ring > rings[x.id] {
				t.Fatalf("at %d: %d stands in ring %d, behind %d", ticks, x.id, ring, rings[x.id])
			} else if ring < rings[x.id] {
				rings[x.id] = ring
				moves[x.id]++
			}
		}
	}
	sum := 0
	for _, n := range moves {
		sum += n
	}
	if len(want) != 0 || ticks != last || sum != total || slices.Max(moves[:]) != 3 || moves[62] != 3 {
		t.Errorf("%d ticks, %d left, moved %d times, of each %v", ticks, len(want), total, moves)
	}
}

// P6.3: from the edges on, timers at all distances up to some, each counted by itself.
func TestEachAtItsMoment(t *testing.T) {
	for _, now := range edges() {
		b := made(t, now)
		for id := range 64 {
			b.arm(t, id, now+1+id*id*2)
		}
		for range 2*64*64 + 2 {
			b.tick(t)
			for _, x := range b.r.list {
				if x.moves > 3 {
					t.Fatalf("from %d: %d was moved %d times", now, x.id, x.moves)
				}
			}
			if b.r.now%61 == 0 {
				b.check(t, "on the way")
			}
		}
		if b.w.Len() != 0 {
			t.Errorf("from %d: %d are left", now, b.w.Len())
		}
	}
}

// R3: a nil wheel. R1: nothing panics of one that New did not make either.
func TestNil(t *testing.T) {
	var w *Wheel
	other := &Wheel{}
	for _, x := range append(strangers(), 0, 1, 64, last) {
		at, ok := w.At(x)
		ring, slot, is := w.Place(x)
		if at != 0 || ok || ring != 0 || slot != 0 || is || w.Cancel(x) {
			t.Errorf("of %d: At %d %t, Place %d %d %t", x, at, ok, ring, slot, is)
		}
		for _, e := range []api.Errno{w.Arm(x, 1), w.Arm(1, x), w.Arm(x, x)} {
			if e != api.ErrNil {
				t.Errorf("Arm of %d: %d", x, e)
			}
		}
		other.Arm(x, 3)
		other.Arm(2, x)
		other.Cancel(x - 1)
		other.At(x)
		other.Place(x)
		other.Tick()
	}
	if off, moved := w.Tick(); off != nil || moved != 0 || w.Now() != 0 || w.Len() != 0 {
		t.Errorf("Tick: %v %d, Now %d, Len %d", off, moved, w.Now(), w.Len())
	}
}

// R4: what Tick answers is new memory, with its spare room: neither a later answer nor the wheel hangs on it.
func TestAnswersAreNew(t *testing.T) {
	for _, now := range []int{0, 62, 63, 4095, 1<<18 - 1} {
		b := made(t, now)
		for id := range 60 {
			b.arm(t, id, now+1+id/12+id%2*64)
		}
		kept := [][]int{}
		copies := [][]int{}
		for range 140 {
			off, _ := b.tick(t)
			for k, list := range kept {
				if !slices.Equal(list, copies[k]) {
					t.Fatalf("from %d: an answer became %v, it was %v", now, list, copies[k])
				}
			}
			kept, copies = append(kept, off), append(copies, slices.Clone(off))
		}
		b = made(t, now)
		for id := range 60 {
			b.arm(t, id, now+1+id/12+id%2*64)
		}
		for range 140 {
			off, _ := b.tick(t)
			off = off[:cap(off)]
			for k := range off {
				off[k] = 7
			}
			b.arm(t, 100+b.r.now, b.r.now+1+b.r.now%3*64)
			for k := range off {
				off[k] = -9
			}
			b.check(t, "an answer was changed")
		}
	}
}

// R5: a call that answers an error or a false, and one that tells, changes nothing: what goes off then, and when, stays.
func TestRefusedChangesNothing(t *testing.T) {
	for _, now := range []int{0, 60, 4090, 1<<18 - 5} {
		for _, b := range []both{made(t, now), armed(t, now, now+1, now+2, now+64, now+5000, last), full(t, now)} {
			for range 6 {
				for _, x := range strangers() {
					for id := range 64 {
						if b.r.index(id) >= 0 {
							b.arm(t, id, b.r.now+1)
							b.arm(t, id, last)
						}
						b.arm(t, id, b.r.now)
					}
					b.arm(t, 70, min(x, b.r.now))
					b.arm(t, -1, b.r.now+1)
					b.arm(t, 70, max(x, last+1))
					b.cancel(t, x)
					b.w.At(x)
					b.w.Place(x)
					if len(b.r.list) == 64 {
						b.arm(t, 70, b.r.now+1)
					}
				}
				b.check(t, "refused")
				b.tick(t)
			}
			b.ticks(t, now+5200)
			b.check(t, "refused, and gone off")
		}
	}
}

// Two wheels share nothing.
func TestApart(t *testing.T) {
	a, b := armed(t, 60, 64, 65, 4096), armed(t, 4090, 4096, 4097, last)
	a.cancel(t, 1)
	b.check(t, "the other one")
	b.cancel(t, 2)
	a.ticks(t, 70)
	b.check(t, "the other one")
	b.ticks(t, 4200)
	a.check(t, "the one")
	a.ticks(t, 4200)
	a.check(t, "the one")
	b.check(t, "the other one")
}

// P6.1, P6.2: all plays of six calls about moments at which digits become 0.
func TestAllShortPlays(t *testing.T) {
	const length = 6
	for _, edge := range []int{64, 4096, 1 << 18, last} {
		now := edge - 2
		calls := []func(b both){func(b both) { b.tick(t) }}
		for id, at := range []int{edge, edge + 1} {
			calls = append(calls, func(b both) { b.arm(t, id, at) })
			calls = append(calls, func(b both) { b.cancel(t, id) })
		}
		calls = append(calls, func(b both) { b.arm(t, 1, edge) })
		calls = append(calls, func(b both) { b.arm(t, 0, edge+64) })
		plays := 1
		for range length {
			plays *= len(calls)
		}
		for play := range plays {
			b := made(t, now)
			for rest, i := play, 0; i < length; i++ {
				calls[rest%len(calls)](b)
				rest /= len(calls)
			}
			if b.w.Len() != len(b.r.list) {
				t.Fatalf("from %d: play %d: Len %d, not %d", now, play, b.w.Len(), len(b.r.list))
			}
			for range 3 {
				b.tick(t)
			}
		}
	}
}

// P6.1, P6.2: long plays by a rule of their own.
func TestLongPlays(t *testing.T) {
	state := uint64(1)
	draw := func(n int) int {
		state = state*6364136223846793005 + 1442695040888963407
		return int(state >> 33 % uint64(n))
	}
	starts := edges()
	for range 60 {
		b := made(t, max(0, starts[draw(len(starts))]-draw(200)))
		ids, reach := 1+draw(100), 1<<(1+draw(14))
		for step := range 4000 {
			switch draw(12) {
			case 0:
				b.cancel(t, draw(ids+2)-1)
			case 1:
				b.arm(t, draw(ids+2)-1, b.r.now+draw(4)-1)
			case 2:
				b.arm(t, draw(ids), draw(last+2))
			case 3, 4, 5:
				b.arm(t, draw(ids), b.r.now+1+draw(reach))
			default:
				b.tick(t)
			}
			if step%40 == 0 {
				b.check(t, "a long play")
			}
		}
		b.check(t, "a long play")
	}
}
