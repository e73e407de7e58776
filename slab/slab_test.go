package slab

import (
	"bytes"
	"math"
	"slices"
	"testing"

	"coxswain/api"
	"coxswain/frames"
)

// rows keeps a slab as the promises tell it: the pieces that are taken, and nothing else; those tell how their frames are cut. Its frames are frames of its own, which must stay the same as those beneath the slab.
type rows struct {
	beneath *frames.Frames
	list    []Ref
}

// class is the size of the pieces for so many bytes, from the document's table.
func class(size int) int {
	switch {
	case size >= 1 && size <= 16:
		return 16
	case size >= 17 && size <= 32:
		return 32
	case size >= 33 && size <= 64:
		return 64
	}
	return 0
}

// isCut answers whether frame i is cut into pieces of this size.
func (w *rows) isCut(i int, size int) bool {
	return slices.ContainsFunc(w.list, func(r Ref) bool { return r.Frame == i && r.Size == size })
}

func (w *rows) take(size int) (Ref, api.Errno) {
	size = class(size)
	if size == 0 {
		return Ref{}, api.ErrArg
	}
	for i := range 64 {
		for slot := range 64 / size {
			if r := (Ref{i, slot, size}); w.isCut(i, size) && !slices.Contains(w.list, r) {
				w.list = append(w.list, r)
				return r, api.OK
			}
		}
	}
	i, e := w.beneath.Take()
	if e != api.OK {
		return Ref{}, api.ErrFull
	}
	w.list = append(w.list, Ref{i, 0, size})
	return Ref{i, 0, size}, api.OK
}

func (w *rows) give(r Ref) api.Errno {
	at := slices.Index(w.list, r)
	if at < 0 {
		return api.ErrNone
	}
	w.list = slices.Delete(w.list, at, at+1)
	if !slices.ContainsFunc(w.list, func(x Ref) bool { return x.Frame == r.Frame }) {
		w.beneath.Give(r.Frame)
	}
	return api.OK
}

// both is a slab and the frames beneath it, and the same as rows.
type both struct {
	f *frames.Frames
	s *Slab
	w *rows
}

// made answers a new slab over n frames.
func made(t *testing.T, n int) both {
	t.Helper()
	f, e := frames.New(n)
	if e != api.OK {
		t.Fatalf("frames.New(%d): %d", n, e)
	}
	beneath, _ := frames.New(n)
	return both{f, New(f), &rows{beneath: beneath}}
}

// cutInto answers a slab over n frames of which pieces of these sizes were taken, one by one.
func cutInto(t *testing.T, n int, sizes ...int) both {
	t.Helper()
	b := made(t, n)
	for _, size := range sizes {
		if _, e := b.take(t, size); e != api.OK {
			t.Fatalf("Take(%d): %d", size, e)
		}
	}
	return b
}

// take takes a piece of the slab and of the rows.
func (b both) take(t *testing.T, size int) (Ref, api.Errno) {
	t.Helper()
	r, e := b.s.Take(size)
	if due, wrong := b.w.take(size); r != due || e != wrong {
		t.Fatalf("Take(%d): %v %d, not %v %d", size, r, e, due, wrong)
	}
	return r, e
}

// give gives r back to the slab and to the rows.
func (b both) give(t *testing.T, r Ref) api.Errno {
	t.Helper()
	e := b.s.Give(r)
	if wrong := b.w.give(r); e != wrong {
		t.Fatalf("Give(%v): %d, not %d", r, e, wrong)
	}
	return e
}

// check asks all that the slab and the frames beneath it tell without being changed.
func (b both) check(t *testing.T, what string) {
	t.Helper()
	if got, due := b.s.Len(), len(b.w.list); got != due {
		t.Fatalf("%s: Len %d, not %d", what, got, due)
	}
	if got, due := b.f.Free(), b.w.beneath.Free(); got != due {
		t.Fatalf("%s: %d frames are free, not %d", what, got, due)
	}
	for i := -1; i <= 64; i++ {
		if got, due := b.f.Has(i), b.w.beneath.Has(i); got != due {
			t.Fatalf("%s: frame %d is taken: %t, not %t", what, i, got, due)
		}
		for slot := -1; slot <= 4; slot++ {
			for _, size := range []int{0, 16, 32, 64} {
				r := Ref{i, slot, size}
				if got, due := b.s.Has(r), slices.Contains(b.w.list, r); got != due {
					t.Fatalf("%s: Has(%v): %t, not %t", what, r, got, due)
				}
			}
		}
	}
}

// checkEmptied takes all that there is of each size, and then gives back all of it.
func (b both) checkEmptied(t *testing.T, what string) {
	t.Helper()
	for _, size := range []int{64, 1, 32} {
		for e := api.OK; e == api.OK; {
			_, e = b.take(t, size)
		}
	}
	b.check(t, what)
	for len(b.w.list) > 0 {
		b.give(t, b.w.list[len(b.w.list)/2])
	}
	b.check(t, what)
}

// strangers are numbers that are no frame, no slot and no size: those just beside the bounds, the least and the greatest, and those that would be well if their higher bits were lost.
func strangers() []int {
	return []int{
		math.MinInt, math.MinInt + 1, math.MinInt + 16, math.MinInt32, -1 << 32, -256, -65, -64, -16, -4, -1,
		65, 66, 127, 128, 256, 1<<8 + 1, 1 << 16, 1 << 32, 1<<32 + 1, 1<<32 + 16, 1 << 62, math.MaxInt32, math.MaxInt - 1, math.MaxInt,
	}
}

// P5.2: the document's examples.
func TestExamples(t *testing.T) {
	f, _ := frames.New(2)
	s := New(f)
	for _, x := range []struct {
		size int
		want Ref
	}{{10, Ref{0, 0, 16}}, {16, Ref{0, 1, 16}}, {33, Ref{1, 0, 64}}} {
		if r, e := s.Take(x.size); r != x.want || e != api.OK {
			t.Errorf("Take(%d): %v %d, not %v", x.size, r, e, x.want)
		}
	}
	for k, x := range []struct {
		r    Ref
		want api.Errno
	}{{Ref{0, 0, 16}, api.OK}, {Ref{0, 1, 16}, api.OK}, {Ref{0, 1, 16}, api.ErrNone}} {
		if e := s.Give(x.r); e != x.want {
			t.Errorf("Give(%v): %d, not %d", x.r, e, x.want)
		}
		if f.Has(0) != (k == 0) || !f.Has(1) {
			t.Errorf("behind %d of Give: frame 0 is taken: %t, frame 1: %t", k+1, f.Has(0), f.Has(1))
		}
	}
}

// P5.1: Class of all numbers about those that may be, and of others.
func TestClass(t *testing.T) {
	for size := -300; size <= 300; size++ {
		if got := Class(size); got != class(size) {
			t.Errorf("Class(%d): %d, not %d", size, got, class(size))
		}
	}
	for _, size := range strangers() {
		if got := Class(size); got != 0 {
			t.Errorf("Class(%d): %d", size, got)
		}
	}
	for size, want := range map[int]int{-1: 0, 0: 0, 1: 16, 15: 16, 16: 16, 17: 32, 31: 32, 32: 32, 33: 64, 63: 64, 64: 64, 65: 0} {
		if got := Class(size); got != want {
			t.Errorf("Class(%d): %d, not %d", size, got, want)
		}
	}
}

// P5.1: a new slab has no pieces, and has taken no frame; it works on the frames that were handed in.
func TestNew(t *testing.T) {
	for _, n := range []int{1, 2, 63, 64} {
		b := made(t, n)
		if b.s == nil || b.s.Len() != 0 || b.f.Free() != n {
			t.Fatalf("New over %d frames: Len %d, %d of them are free", n, b.s.Len(), b.f.Free())
		}
		b.check(t, "new")
		b.take(t, 1)
		if b.f.Free() != n-1 || !b.f.Has(0) {
			t.Errorf("New over %d frames: a piece is taken, and %d frames are free", n, b.f.Free())
		}
		b.checkEmptied(t, "new")
	}
}

// P5.1: over no frames each Take is ErrNil, of a size that may not be too (R6); there is nothing to have or to give.
func TestNoFrames(t *testing.T) {
	s := New(nil)
	if s == nil {
		t.Fatal("New(nil): nil")
	}
	for _, size := range append(strangers(), 0, 1, 16, 17, 32, 33, 64) {
		if r, e := s.Take(size); r != (Ref{}) || e != api.ErrNil {
			t.Errorf("Take(%d): %v %d", size, r, e)
		}
		if s.Len() != 0 {
			t.Errorf("behind Take(%d): Len %d", size, s.Len())
		}
		for _, r := range []Ref{{}, {0, 0, size}, {size, 0, 16}, {0, size, 16}} {
			if e := s.Give(r); e != api.ErrNone || s.Has(r) {
				t.Errorf("Give(%v): %d, Has %t", r, e, s.Has(r))
			}
		}
	}
}

// R3: a nil slab. R1: nothing panics of one that New did not make either.
func TestNil(t *testing.T) {
	var s *Slab
	if s.Len() != 0 {
		t.Errorf("Len: %d", s.Len())
	}
	other := &Slab{}
	for _, x := range append(strangers(), 0, 1, 16, 64) {
		if r, e := s.Take(x); r != (Ref{}) || e != api.ErrNil {
			t.Errorf("Take(%d): %v %d", x, r, e)
		}
		other.Take(x)
		for _, r := range []Ref{{}, {0, 0, x}, {x, 0, 16}, {0, x, 16}} {
			if e := s.Give(r); e != api.ErrNil {
				t.Errorf("Give(%v): %d", r, e)
			}
			if s.Has(r) {
				t.Errorf("Has(%v)", r)
			}
			other.Give(r)
			other.Has(r)
		}
	}
	other.Len()
}

// P5.2: Take of each size: as many pieces as a frame has, their slots from 0 on, then a frame more; ErrFull when there is none.
func TestTakeAll(t *testing.T) {
	for size := 1; size <= 64; size++ {
		for _, n := range []int{1, 2, 3, 64} {
			b := made(t, n)
			pieces := 64 / class(size)
			for k := range n * pieces {
				want := Ref{k / pieces, k % pieces, class(size)}
				if r, e := b.take(t, size); r != want || e != api.OK {
					t.Fatalf("of %d frames, Take(%d): %v %d, not %v", n, size, r, e, want)
				}
				if !b.s.Has(want) || b.s.Len() != k+1 || b.f.Free() != n-1-k/pieces {
					t.Fatalf("of %d frames, %v taken: Has %t, Len %d, %d free", n, want, b.s.Has(want), b.s.Len(), b.f.Free())
				}
			}
			for range 3 {
				if r, e := b.s.Take(size); r != (Ref{}) || e != api.ErrFull {
					t.Fatalf("of %d frames, Take(%d) of none: %v %d", n, size, r, e)
				}
			}
			b.check(t, "all taken")
		}
	}
}

// P5.2 and R6: Take's errors: what may not be is told ahead of what is full; a frame of another class is no room.
func TestTakeErrors(t *testing.T) {
	for _, sizes := range [][]int{{}, {16}, {64}, {16, 16, 16, 16}, {32, 32}} {
		b := cutInto(t, 1, sizes...)
		for _, size := range append(strangers(), 0) {
			if r, e := b.s.Take(size); r != (Ref{}) || e != api.ErrArg {
				t.Errorf("beside %v: Take(%d): %v %d", sizes, size, r, e)
			}
		}
		b.check(t, "beside others")
	}
	for _, mine := range []int{16, 32, 64} {
		for _, other := range []int{16, 32, 64} {
			b := cutInto(t, 1, mine)
			want := api.ErrFull
			if mine == other && mine < 64 {
				want = api.OK
			}
			if r, e := b.take(t, other); e != want {
				t.Errorf("beside %d: Take(%d): %v %d, not %d", mine, other, r, e, want)
			}
			b.check(t, "beside another class")
		}
	}
}

// P5.2: of several frames with a free piece the least, of that the least slot, whichever are free and in whichever direction they were given back; a frame that was given back whole is cut anew behind all of these.
func TestLeastFirst(t *testing.T) {
	for _, size := range []int{16, 32} {
		pieces := 64 / size
		all := 3 * pieces
		for holes := range 1 << all {
			for _, falling := range []bool{false, true} {
				b := cutInto(t, 3, slices.Repeat([]int{size}, all)...)
				for k := range all {
					if falling {
						k = all - 1 - k
					}
					if holes>>k&1 == 1 {
						b.give(t, Ref{k / pieces, k % pieces, size})
					}
				}
				for e := api.OK; e == api.OK; {
					_, e = b.take(t, size)
				}
				if b.s.Len() != all {
					t.Fatalf("filled again: Len %d", b.s.Len())
				}
			}
		}
	}
}

// P5.2: a piece is cut out of a frame that is cut already even if frames are free, and out of a greater one ahead of none.
func TestCutFramesFirst(t *testing.T) {
	b := cutInto(t, 8, 16, 32, 64, 16, 1, 2, 3)
	b.check(t, "taken")
	for _, x := range []struct {
		size int
		want Ref
	}{{32, Ref{1, 1, 32}}, {20, Ref{4, 0, 32}}, {16, Ref{3, 1, 16}}, {64, Ref{5, 0, 64}}, {16, Ref{3, 2, 16}}, {32, Ref{4, 1, 32}}} {
		if r, _ := b.take(t, x.size); r != x.want {
			t.Errorf("Take(%d): %v, not %v", x.size, r, x.want)
		}
	}
	b.checkEmptied(t, "taken")
}

// P5.2: Give's errors: each number of a piece that is taken must be its own.
func TestGiveErrors(t *testing.T) {
	b := cutInto(t, 5, 16, 16, 32, 64, 16)
	for _, x := range strangers() {
		for _, r := range []Ref{{x, 0, 16}, {0, x, 16}, {0, 0, x}, {x, x, 16}, {x, x, x}, {1, x, 32}, {2, x, 64}, {2, 0, x}, {4, 0, x}} {
			if e := b.give(t, r); e != api.ErrNone || b.s.Has(r) {
				t.Errorf("Give(%v): %d, Has %t", r, e, b.s.Has(r))
			}
		}
	}
	for i := -1; i <= 64; i++ {
		for slot := -1; slot <= 64; slot++ {
			for size := -1; size <= 65; size++ {
				r := Ref{i, slot, size}
				if slices.Contains(b.w.list, r) {
					continue
				}
				if e := b.s.Give(r); e != api.ErrNone || b.s.Has(r) {
					t.Fatalf("Give(%v): %d, Has %t", r, e, b.s.Has(r))
				}
			}
		}
	}
	b.check(t, "given what is not taken")
	b.checkEmptied(t, "given what is not taken")
}

// P5.2: a piece that is given back is free at once, and once; a frame is given back with the last of its pieces, whichever that is.
func TestGiveFrameBack(t *testing.T) {
	for _, size := range []int{16, 32, 64} {
		pieces := 64 / size
		for first := range pieces {
			b := made(t, 3)
			for range 2 * pieces {
				b.take(t, size)
			}
			for k := range pieces {
				r := Ref{0, (first + k) % pieces, size}
				if !b.f.Has(0) || b.give(t, r) != api.OK || b.s.Has(r) || b.give(t, r) != api.ErrNone {
					t.Errorf("Give(%v)", r)
				}
				b.check(t, "given back")
			}
			if b.f.Has(0) || !b.f.Has(1) || b.f.Free() != 2 {
				t.Errorf("size %d: frame 0 is taken: %t, %d are free", size, b.f.Has(0), b.f.Free())
			}
			b.checkEmptied(t, "given back")
		}
	}
}

// P5.2: a frame that was given back is cut anew, into another class as well; nothing is left of how it was cut.
func TestCutAnew(t *testing.T) {
	for _, before := range []int{16, 32, 64} {
		for _, behind := range []int{16, 32, 64} {
			b := made(t, 1)
			for range 64 / before {
				b.take(t, before)
			}
			for slot := range 64 / before {
				b.give(t, Ref{0, slot, before})
			}
			if r, e := b.take(t, behind); r != (Ref{0, 0, behind}) || e != api.OK {
				t.Errorf("cut into %d, then Take(%d): %v %d", before, behind, r, e)
			}
			b.check(t, "cut anew")
			b.checkEmptied(t, "cut anew")
		}
	}
}

// P5.2: what is cut anew is what frames' Take answers: the frame given back last, the least that was never taken behind all of these.
func TestFramesOrder(t *testing.T) {
	b := cutInto(t, 6, 64, 64, 64, 64)
	for _, i := range []int{2, 0, 3} {
		b.give(t, Ref{i, 0, 64})
	}
	for _, x := range []struct{ size, want int }{{16, 3}, {32, 0}, {64, 2}, {64, 4}, {64, 5}} {
		if r, e := b.take(t, x.size); r != (Ref{x.want, 0, x.size}) || e != api.OK {
			t.Errorf("Take(%d): %v %d, not of frame %d", x.size, r, e, x.want)
		}
	}
	b.check(t, "taken again")
	if r, _ := b.take(t, 16); r != (Ref{3, 1, 16}) {
		t.Errorf("Take(16): %v", r)
	}
}

// P5.1: frames that others took of those beneath are no room, and are none of the slab's; when they are given back they are.
func TestFramesOfOthers(t *testing.T) {
	b := made(t, 3)
	b.f.Take()
	b.w.beneath.Take()
	if r, _ := b.take(t, 64); r.Frame != 1 {
		t.Errorf("beside frame 0: Take(64): %v", r)
	}
	b.f.Take()
	b.w.beneath.Take()
	b.check(t, "beside others")
	for _, i := range []int{0, 2} {
		if b.give(t, Ref{i, 0, 64}) != api.ErrNone || !b.f.Has(i) {
			t.Errorf("frame %d of others is given back", i)
		}
	}
	if _, e := b.take(t, 16); e != api.ErrFull {
		t.Errorf("beside two frames of others: %d", e)
	}
	b.f.Give(0)
	b.w.beneath.Give(0)
	if r, e := b.take(t, 16); r != (Ref{0, 0, 16}) || e != api.OK {
		t.Errorf("frame 0 is free: %v %d", r, e)
	}
	b.check(t, "others gave one back")
}

// P5.1: two slabs over the same frames share these and nothing else.
func TestTwoOverTheSame(t *testing.T) {
	f, _ := frames.New(3)
	a, b := New(f), New(f)
	for _, x := range []struct {
		s    *Slab
		size int
		want Ref
	}{{a, 16, Ref{0, 0, 16}}, {b, 16, Ref{1, 0, 16}}, {a, 16, Ref{0, 1, 16}}, {b, 32, Ref{2, 0, 32}}, {b, 16, Ref{1, 1, 16}}} {
		if r, e := x.s.Take(x.size); r != x.want || e != api.OK {
			t.Errorf("Take(%d): %v %d, not %v", x.size, r, e, x.want)
		}
	}
	if _, e := a.Take(32); e != api.ErrFull {
		t.Errorf("Take(32): %d", e)
	}
	if a.Len() != 2 || b.Len() != 3 || a.Has(Ref{1, 0, 16}) || b.Has(Ref{0, 0, 16}) || a.Give(Ref{1, 0, 16}) != api.ErrNone {
		t.Error("one has what the other took")
	}
	if b.Give(Ref{2, 0, 32}) != api.OK {
		t.Error("Give({2 0 32})")
	}
	if r, e := a.Take(64); r != (Ref{2, 0, 64}) || e != api.OK {
		t.Errorf("Take(64): %v %d", r, e)
	}
}

// P5.2 and R1: frames that others gave back beneath the slab: a piece of them is given back all the same, and one that frames' Take answers is cut anew.
func TestGivenBackByOthers(t *testing.T) {
	for _, size := range []int{16, 32, 64} {
		b := cutInto(t, 1, 16, 16)
		b.f.Give(0)
		if b.s.Give(Ref{0, 1, 16}) != api.OK || b.s.Give(Ref{0, 0, 16}) != api.OK || b.s.Len() != 0 || b.f.Free() != 1 {
			t.Errorf("given back: Len %d, %d frames are free", b.s.Len(), b.f.Free())
		}
		b = cutInto(t, 1, 33)
		b.f.Give(0)
		if r, e := b.s.Take(size); r != (Ref{0, 0, size}) || e != api.OK || !b.s.Has(r) || b.s.Len() != 1 {
			t.Errorf("Take(%d): %v %d, Len %d", size, r, e, b.s.Len())
		}
	}
}

// Two slabs over frames of their own share nothing.
func TestApart(t *testing.T) {
	a, b := cutInto(t, 3, 16, 32), cutInto(t, 2, 64)
	a.give(t, Ref{0, 0, 16})
	b.check(t, "the other one")
	b.give(t, Ref{0, 0, 64})
	a.check(t, "the one")
	b.checkEmptied(t, "the other one")
	a.check(t, "the one")
	a.checkEmptied(t, "the one")
}

// R4: what stands in the frames is not changed by taking and giving pieces of them; only a frame given back is emptied.
func TestBytesStay(t *testing.T) {
	b := cutInto(t, 2, 16, 16, 64)
	want := make([]byte, 64)
	for k := range want {
		want[k] = byte(k + 1)
	}
	b.f.Write(0, 0, want)
	b.f.Write(1, 0, want)
	b.take(t, 16)
	b.give(t, Ref{0, 0, 16})
	b.take(t, 9)
	b.s.Take(0)
	b.s.Take(64)
	b.give(t, Ref{0, 3, 16})
	for i := range 2 {
		if got, e := b.f.Read(i, 0, 64); e != api.OK || !bytes.Equal(got, want) {
			t.Errorf("frame %d: %v %d", i, got, e)
		}
	}
	b.give(t, Ref{1, 0, 64})
	b.take(t, 64)
	if got, _ := b.f.Read(1, 0, 64); !bytes.Equal(got, make([]byte, 64)) {
		t.Errorf("taken again: %v", got)
	}
}

// R5: a call that answers an error, and one that tells, changes nothing: the pieces, the frames beneath, and what is taken next stay.
func TestRefusedChangesNothing(t *testing.T) {
	for _, n := range []int{2, 3} {
		for _, sizes := range [][]int{{}, {16, 64}, {32, 32, 16}, {16, 16, 16, 16, 32}, {64, 64}} {
			b := cutInto(t, n, sizes...)
			b.s.Take(0)
			for _, x := range strangers() {
				b.s.Take(x)
				b.s.Give(Ref{0, 0, x})
				b.s.Give(Ref{x, 0, 16})
				b.s.Has(Ref{0, x, 16})
				b.s.Len()
			}
			for _, size := range []int{16, 32, 64} {
				if b.f.Free() == 0 && !slices.Contains(sizes, size) {
					b.s.Take(size)
				}
				for i := range n {
					for slot := range 5 {
						if r := (Ref{i, slot, size}); !slices.Contains(b.w.list, r) {
							b.s.Give(r)
						}
					}
				}
			}
			b.check(t, "refused")
			b.checkEmptied(t, "refused")
			b.checkEmptied(t, "refused, and emptied once")
		}
	}
}

// P5.2: all plays of five calls on two frames.
func TestAllShortPlays(t *testing.T) {
	const length = 5
	calls := []func(s *Slab, w *rows) bool{}
	for _, size := range []int{0, 16, 32, 64} {
		calls = append(calls, func(s *Slab, w *rows) bool {
			got, e := s.Take(size)
			due, wrong := w.take(size)
			return got == due && e == wrong
		})
	}
	for _, r := range []Ref{{0, 0, 16}, {0, 1, 16}, {0, 0, 32}, {0, 1, 32}, {0, 0, 64}, {1, 0, 16}, {1, 0, 32}, {1, 0, 64}} {
		calls = append(calls, func(s *Slab, w *rows) bool {
			e := s.Give(r)
			return e == w.give(r) && !s.Has(r) && s.Len() == len(w.list)
		})
	}
	plays := 1
	for range length {
		plays *= len(calls)
	}
	for play := range plays {
		f, _ := frames.New(2)
		beneath, _ := frames.New(2)
		b := both{f, New(f), &rows{beneath: beneath}}
		for rest, i := play, 0; i < length; i++ {
			if !calls[rest%len(calls)](b.s, b.w) {
				t.Fatalf("play %d: call %d answers something else", play, i)
			}
			rest /= len(calls)
		}
		if f.Free() != beneath.Free() || f.Has(0) != beneath.Has(0) {
			t.Fatalf("play %d: the frames beneath are others", play)
		}
	}
}

// P5.1 and P5.2: long plays by a rule of their own, on many frames, of which others take some.
func TestLongPlays(t *testing.T) {
	state := uint64(1)
	draw := func(n int) int {
		state = state*6364136223846793005 + 1442695040888963407
		return int(state >> 33 % uint64(n))
	}
	for range 30 {
		n := 1 + draw(64)
		b := made(t, n)
		others := []int{}
		for step := range 1500 {
			switch draw(20) {
			case 0:
				i, e := b.f.Take()
				b.w.beneath.Take()
				if e == api.OK {
					others = append(others, i)
				}
			case 1:
				if len(others) > 0 {
					i := others[len(others)-1]
					others = others[:len(others)-1]
					b.f.Give(i)
					b.w.beneath.Give(i)
				}
			case 2:
				b.give(t, Ref{draw(n+2) - 1, draw(6) - 1, 16 << draw(4)})
			case 3:
				b.take(t, draw(68)-2)
			case 4, 5, 6, 7, 8, 9, 10, 11:
				b.take(t, 1+draw(16)<<draw(3))
			default:
				if len(b.w.list) > 0 {
					b.give(t, b.w.list[draw(len(b.w.list))])
				}
			}
			if step%50 == 0 {
				b.check(t, "a long play")
			}
		}
		b.checkEmptied(t, "a long play")
	}
}
