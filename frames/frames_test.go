package frames

import (
	"bytes"
	"math"
	"slices"
	"testing"

	"coxswain/api"
)

// rows keeps frames as the promises tell them, without a stack: when each was given back last tells which is taken next.
type rows struct {
	clock int
	given []int    // when it was given back last; -1: never
	bytes [][]byte // nil: it is free
	fresh int      // the least that was never taken
}

func newRows(n int) *rows {
	r := &rows{given: make([]int, n), bytes: make([][]byte, n)}
	for i := range r.given {
		r.given[i] = -1
	}
	return r
}

// next answers the frame that is taken next; -1 of none.
func (r *rows) next() int {
	best := -1
	for i, when := range r.given {
		if r.bytes[i] == nil && when >= 0 && (best < 0 || when > r.given[best]) {
			best = i
		}
	}
	if best < 0 && r.fresh < len(r.given) {
		return r.fresh
	}
	return best
}

func (r *rows) take() (int, api.Errno) {
	i := r.next()
	if i < 0 {
		return 0, api.ErrFull
	}
	if i == r.fresh {
		r.fresh++
	}
	r.bytes[i] = make([]byte, 64)
	return i, api.OK
}

func (r *rows) wrong(i int, off int, n int) api.Errno {
	if i < 0 || i >= len(r.bytes) || off < 0 || n < 0 || off > 64 || n > 64 || off+n > 64 {
		return api.ErrArg
	}
	if r.bytes[i] == nil {
		return api.ErrNone
	}
	return api.OK
}

func (r *rows) give(i int) api.Errno {
	e := r.wrong(i, 0, 0)
	if e == api.OK {
		r.clock++
		r.given[i], r.bytes[i] = r.clock, nil
	}
	return e
}

func (r *rows) free() int {
	count := 0
	for _, b := range r.bytes {
		if b == nil {
			count++
		}
	}
	return count
}

func (r *rows) read(i int, off int, n int) ([]byte, api.Errno) {
	e := r.wrong(i, off, n)
	if e != api.OK {
		return nil, e
	}
	return bytes.Clone(r.bytes[i][off : off+n]), api.OK
}

func (r *rows) write(i int, off int, b []byte) api.Errno {
	e := r.wrong(i, off, len(b))
	if e == api.OK {
		for k, x := range b {
			r.bytes[i][off+k] = x
		}
	}
	return e
}

// strangers are numbers of which there is no frame, and that are no place and no number of bytes in one: those just beside the bounds, the least and the greatest, and those that would be well if their higher bits were lost or a sum wrapped round.
func strangers() []int {
	return []int{
		math.MinInt, math.MinInt + 1, math.MinInt + 64, math.MinInt32, -1 << 32, -256, -65, -64, -63, -2, -1,
		65, 66, 127, 128, 129, 256, 1 << 8, 1 << 16, 1 << 32, 1<<32 + 1, 1 << 62, math.MaxInt32, math.MaxInt - 63, math.MaxInt - 1, math.MaxInt,
	}
}

// checkSame asks f all that it tells of its frames, and holds it against r.
func checkSame(t *testing.T, what string, f *Frames, r *rows) {
	t.Helper()
	if got, due := f.Free(), r.free(); got != due {
		t.Fatalf("%s: Free %d, not %d", what, got, due)
	}
	for i := -1; i <= len(r.bytes); i++ {
		due, wrong := r.read(i, 0, 64)
		if got := f.Has(i); got != (wrong == api.OK) {
			t.Fatalf("%s: Has(%d): %t", what, i, got)
		}
		if got, e := f.Read(i, 0, 64); e != wrong || !bytes.Equal(got, due) {
			t.Fatalf("%s: Read(%d, 0, 64): %v %d, not %v %d", what, i, got, e, due, wrong)
		}
	}
}

// checkEmptied takes all that is free in f, and then once more.
func checkEmptied(t *testing.T, what string, f *Frames, r *rows) {
	t.Helper()
	for range r.free() + 1 {
		got, e := f.Take()
		if due, wrong := r.take(); got != due || e != wrong {
			t.Fatalf("%s: Take %d %d, not %d %d", what, got, e, due, wrong)
		}
	}
	checkSame(t, what, f, r)
}

// pattern are n bytes, none of them 0, those of one seed unlike those of another.
func pattern(n int, seed int) []byte {
	b := make([]byte, n)
	for k := range b {
		b[k] = byte(1 + (seed*31+k*7)%255)
	}
	return b
}

// made answers n frames, and the same as rows, of which so many are taken and full of bytes.
func made(t *testing.T, n int, taken int) (*Frames, *rows) {
	t.Helper()
	f, e := New(n)
	if e != api.OK {
		t.Fatalf("New(%d): %d", n, e)
	}
	r := newRows(n)
	for range taken {
		i, _ := r.take()
		if got, e := f.Take(); got != i || e != api.OK {
			t.Fatalf("Take: %d %d, not %d", got, e, i)
		}
		write(t, f, r, i, 0, pattern(64, i))
	}
	return f, r
}

// write writes b in f and in r.
func write(t *testing.T, f *Frames, r *rows, i int, off int, b []byte) {
	t.Helper()
	due := r.write(i, off, b)
	if e := f.Write(i, off, b); e != due {
		t.Fatalf("Write(%d, %d, of %d): %d, not %d", i, off, len(b), e, due)
	}
}

// give gives i back in f and in r.
func give(t *testing.T, f *Frames, r *rows, i int) {
	t.Helper()
	due := r.give(i)
	if e := f.Give(i); e != due {
		t.Fatalf("Give(%d): %d, not %d", i, e, due)
	}
}

// P4.1: the document's example.
func TestExample(t *testing.T) {
	f, e := New(2)
	if f == nil || e != api.OK {
		t.Fatalf("New(2): %d", e)
	}
	for _, want := range []int{0, 1} {
		if i, e := f.Take(); i != want || e != api.OK {
			t.Errorf("Take: %d %d, not %d", i, e, want)
		}
	}
	if i, e := f.Take(); i != 0 || e != api.ErrFull {
		t.Errorf("Take of none: %d %d", i, e)
	}
	if e := f.Give(0); e != api.OK {
		t.Errorf("Give(0): %d", e)
	}
	if e := f.Give(1); e != api.OK {
		t.Errorf("Give(1): %d", e)
	}
	if i, e := f.Take(); i != 1 || e != api.OK {
		t.Errorf("Take: %d %d, not 1", i, e)
	}
}

// P4.1: New, of each number that may be, and of others.
func TestNew(t *testing.T) {
	for n := 1; n <= 64; n++ {
		f, e := New(n)
		if f == nil || e != api.OK || f.Free() != n {
			t.Fatalf("New(%d): %d, Free %d", n, e, f.Free())
		}
		checkSame(t, "new", f, newRows(n))
		checkEmptied(t, "new", f, newRows(n))
	}
	for _, n := range append(strangers(), 0) {
		if f, e := New(n); f != nil || e != api.ErrArg {
			t.Errorf("New(%d): %v %d", n, f, e)
		}
	}
}

// P4.1: of frames that were never taken the least is; of none at all ErrFull, however often.
func TestTakeAll(t *testing.T) {
	for _, n := range []int{1, 2, 3, 63, 64} {
		f, r := made(t, n, 0)
		for want := range n {
			if i, e := f.Take(); i != want || e != api.OK {
				t.Errorf("of %d: Take %d %d, not %d", n, i, e, want)
			}
			r.take()
			checkSame(t, "one more taken", f, r)
		}
		for range 3 {
			if i, e := f.Take(); i != 0 || e != api.ErrFull {
				t.Errorf("of %d: Take %d %d of none", n, i, e)
			}
			checkSame(t, "all taken", f, r)
		}
	}
}

// orders answers all orders in which list may stand.
func orders(list []int) [][]int {
	if len(list) == 0 {
		return [][]int{nil}
	}
	all := [][]int{}
	for k, first := range list {
		rest := slices.Delete(slices.Clone(list), k, k+1)
		for _, order := range orders(rest) {
			all = append(all, append([]int{first}, order...))
		}
	}
	return all
}

// P4.1: the one that was given back last is taken first, in each order of giving back; those that were never taken come behind all of them.
func TestLastGivenBackFirst(t *testing.T) {
	for _, n := range []int{5, 7} {
		for _, order := range orders([]int{0, 1, 2, 3, 4}) {
			f, r := made(t, n, 5)
			for _, i := range order {
				give(t, f, r, i)
				checkSame(t, "given back", f, r)
			}
			for k := len(order) - 1; k >= 0; k-- {
				if i, e := f.Take(); i != order[k] || e != api.OK {
					t.Fatalf("given back %v: Take %d %d, not %d", order, i, e, order[k])
				}
				r.take()
			}
			checkEmptied(t, "taken again", f, r)
		}
	}
}

// checkTaken takes as many frames as are listed, and holds them against the list.
func checkTaken(t *testing.T, f *Frames, r *rows, list ...int) {
	t.Helper()
	for _, want := range list {
		r.take()
		if i, e := f.Take(); i != want || e != api.OK {
			t.Fatalf("Take: %d %d, not %d", i, e, want)
		}
		checkSame(t, "taken", f, r)
	}
}

// P4.1: what was given back and was taken again since counts no more; given back once more it counts anew.
func TestGivenBackAndTakenAgain(t *testing.T) {
	f, r := made(t, 6, 4)
	give(t, f, r, 2)
	give(t, f, r, 0)
	checkTaken(t, f, r, 0, 2, 4)
	for _, i := range []int{2, 1, 2, 4} {
		give(t, f, r, i)
	}
	checkTaken(t, f, r, 4)
	give(t, f, r, 0)
	checkTaken(t, f, r, 0, 1, 2, 5)
	checkEmptied(t, "taken again", f, r)
}

// P4.1: Give's errors, in their order.
func TestGive(t *testing.T) {
	f, r := made(t, 4, 2)
	cases := []struct {
		i    int
		want api.Errno
	}{
		{2, api.ErrNone}, {3, api.ErrNone}, {4, api.ErrArg}, {5, api.ErrArg}, {64, api.ErrArg}, {-1, api.ErrArg},
		{1, api.OK}, {1, api.ErrNone}, {0, api.OK}, {0, api.ErrNone}, {1, api.ErrNone}, {2, api.ErrNone},
	}
	for _, c := range cases {
		r.give(c.i)
		if e := f.Give(c.i); e != c.want {
			t.Errorf("Give(%d): %d, not %d", c.i, e, c.want)
		}
		checkSame(t, "behind Give", f, r)
	}
	for _, i := range strangers() {
		if e := f.Give(i); e != api.ErrArg || f.Has(i) {
			t.Errorf("Give(%d): %d, Has %t", i, e, f.Has(i))
		}
	}
	checkEmptied(t, "behind Give", f, r)
}

// P4.1: a frame that is taken again is all 0, whatever stood in it; the others keep their bytes.
func TestTakenIsZeros(t *testing.T) {
	for _, n := range []int{1, 3, 64} {
		for i := range n {
			f, r := made(t, n, n)
			give(t, f, r, i)
			got, e := f.Take()
			if got != i || e != api.OK {
				t.Fatalf("Take: %d %d, not %d", got, e, i)
			}
			r.take()
			if b, e := f.Read(i, 0, 64); e != api.OK || !bytes.Equal(b, make([]byte, 64)) {
				t.Errorf("of %d, frame %d taken again: %v %d", n, i, b, e)
			}
			checkSame(t, "taken again", f, r)
		}
	}
}

// P4.2: Read of all places and numbers of bytes, well and just not.
func TestRead(t *testing.T) {
	f, r := made(t, 3, 2)
	for i := -1; i <= 3; i++ {
		for off := -2; off <= 66; off++ {
			for n := -2; n <= 66; n++ {
				due, wrong := r.read(i, off, n)
				if got, e := f.Read(i, off, n); e != wrong || !bytes.Equal(got, due) {
					t.Fatalf("Read(%d, %d, %d): %v %d, not %v %d", i, off, n, got, e, due, wrong)
				}
			}
		}
	}
	checkSame(t, "read", f, r)
}

// P4.2: Write at all places of all numbers of bytes, well and just not: these bytes change, and no others.
func TestWrite(t *testing.T) {
	f, r := made(t, 4, 3)
	seed := 0
	for i := -1; i <= 4; i++ {
		for off := -2; off <= 66; off++ {
			for n := range 67 {
				seed++
				write(t, f, r, i, off, pattern(n, seed))
				if i >= 0 && i < 3 {
					due, _ := r.read(i, 0, 64)
					if got, _ := f.Read(i, 0, 64); !bytes.Equal(got, due) {
						t.Fatalf("Write(%d, %d, of %d): %v, not %v", i, off, n, got, due)
					}
				}
			}
			checkSame(t, "written", f, r)
		}
	}
}

// P4.2: bytes of each value are kept, zeros over others too; a later write stands over an earlier one.
func TestWriteValues(t *testing.T) {
	f, r := made(t, 1, 1)
	for x := range 256 {
		write(t, f, r, 0, x%64, []byte{byte(x)})
		if b, e := f.Read(0, x%64, 1); e != api.OK || len(b) != 1 || b[0] != byte(x) {
			t.Fatalf("Write of %d: %v %d", x, b, e)
		}
		checkSame(t, "written", f, r)
	}
	write(t, f, r, 0, 10, make([]byte, 20))
	write(t, f, r, 0, 20, pattern(20, 3))
	write(t, f, r, 0, 25, nil)
	write(t, f, r, 0, 25, []byte{})
	checkSame(t, "written over", f, r)
}

// P4.2: the edges, written out.
func TestEdges(t *testing.T) {
	f, _ := made(t, 64, 64)
	cases := []struct {
		i, off, n int
		want      api.Errno
	}{
		{0, 0, 64, api.OK}, {63, 0, 64, api.OK}, {63, 63, 1, api.OK}, {63, 64, 0, api.OK}, {63, 0, 0, api.OK}, {0, 1, 63, api.OK},
		{0, 0, 65, api.ErrArg}, {63, 1, 64, api.ErrArg}, {63, 64, 1, api.ErrArg}, {63, 65, 0, api.ErrArg}, {64, 0, 0, api.ErrArg}, {-1, 0, 0, api.ErrArg}, {0, -1, 1, api.ErrArg}, {0, -1, 0, api.ErrArg},
	}
	for _, c := range cases {
		if b, e := f.Read(c.i, c.off, c.n); e != c.want || e == api.OK && !bytes.Equal(b, pattern(64, c.i)[c.off:c.off+c.n]) {
			t.Errorf("Read(%d, %d, %d): %v %d, not %d", c.i, c.off, c.n, b, e, c.want)
		}
		if e := f.Write(c.i, c.off, make([]byte, c.n)); e != c.want {
			t.Errorf("Write(%d, %d, of %d): %d, not %d", c.i, c.off, c.n, e, c.want)
		}
		f.Write(c.i, 0, pattern(64, c.i))
	}
}

// P4.2 and R6: what may not be is told ahead of what is not taken; numbers far off do not wrap round.
func TestStrangers(t *testing.T) {
	f, r := made(t, 2, 1)
	some := append(strangers(), 0, 1, 63, 64)
	for _, i := range []int{-1, 0, 1, 2, math.MinInt, math.MaxInt, 1 << 32, 1<<32 + 1} {
		for _, off := range some {
			for _, n := range some {
				due, wrong := r.read(i, off, n)
				if got, e := f.Read(i, off, n); e != wrong || !bytes.Equal(got, due) {
					t.Fatalf("Read(%d, %d, %d): %v %d, not %v %d", i, off, n, got, e, due, wrong)
				}
			}
			write(t, f, r, i, off, nil)
			write(t, f, r, i, off, []byte{})
			write(t, f, r, i, off, []byte{1})
			write(t, f, r, i, off, make([]byte, 65))
		}
	}
	write(t, f, r, 0, 0, make([]byte, 1<<20))
	write(t, f, r, 1, 0, make([]byte, 1<<20))
	for _, i := range strangers() {
		if f.Has(i) {
			t.Errorf("Has(%d)", i)
		}
	}
	checkSame(t, "strangers", f, r)
	checkEmptied(t, "strangers", f, r)
}

// P4.1 and P4.2: Free, Has and Read tell, and change nothing.
func TestTellingChangesNothing(t *testing.T) {
	f, r := made(t, 6, 5)
	give(t, f, r, 1)
	give(t, f, r, 3)
	for range 5 {
		f.Free()
		f.Has(0)
		f.Has(3)
		f.Read(0, 3, 9)
		checkSame(t, "asked", f, r)
	}
	checkEmptied(t, "asked", f, r)
}

// R5: a call that answers an error changes nothing: the bytes, who is taken and who is taken next stay.
func TestRefusedChangesNothing(t *testing.T) {
	for _, taken := range []int{0, 1, 4, 6} {
		f, r := made(t, 6, taken)
		if taken > 3 {
			give(t, f, r, 2)
			give(t, f, r, 0)
		}
		for i := -2; i < 8; i++ {
			if f.Has(i) {
				continue
			}
			if f.Give(i) == api.OK || f.Write(i, 0, pattern(64, 9)) == api.OK || f.Write(i, 0, nil) == api.OK {
				t.Errorf("of a frame that is not taken, %d: all is well", i)
			}
			if b, e := f.Read(i, 0, 4); len(b) != 0 || e == api.OK {
				t.Errorf("of a frame that is not taken, %d: Read %v %d", i, b, e)
			}
			checkSame(t, "refused", f, r)
		}
		for i := range 6 {
			for _, off := range []int{-1, 1, 64, 65} {
				if f.Write(i, off, pattern(64, 9)) == api.OK || f.Write(i, off, pattern(70, 9)) == api.OK {
					t.Errorf("Write(%d, %d, of 64): all is well", i, off)
				}
				checkSame(t, "refused", f, r)
			}
		}
		checkEmptied(t, "refused", f, r)
		for range 2 {
			f.Take()
		}
		give(t, f, r, 5)
		give(t, f, r, 2)
		checkEmptied(t, "refused of none", f, r)
	}
}

// R3: nil frames.
func TestNil(t *testing.T) {
	var f *Frames
	if i, e := f.Take(); i != 0 || e != api.ErrNil {
		t.Errorf("Take: %d %d", i, e)
	}
	if f.Free() != 0 {
		t.Errorf("Free: %d", f.Free())
	}
	for _, i := range append(strangers(), 0, 1) {
		if e := f.Give(i); e != api.ErrNil {
			t.Errorf("Give(%d): %d", i, e)
		}
		if f.Has(i) {
			t.Errorf("Has(%d)", i)
		}
		for _, off := range []int{-1, 0, 65} {
			if b, e := f.Read(i, off, off); len(b) != 0 || e != api.ErrNil {
				t.Errorf("Read(%d, %d, %d): %v %d", i, off, off, b, e)
			}
			if e := f.Write(i, off, []byte{1}); e != api.ErrNil {
				t.Errorf("Write(%d, %d, 1): %d", i, off, e)
			}
		}
	}
}

// R4: what is read is new memory, its spare room too: neither a frame nor another answer changes with it, nor it with the frame.
func TestReadIsNewMemory(t *testing.T) {
	for off := range 65 {
		for _, n := range []int{0, 1, 5, 64 - off} {
			if off+n > 64 {
				continue
			}
			f, r := made(t, 3, 3)
			due, _ := r.read(1, off, n)
			first, _ := f.Read(1, off, n)
			second, _ := f.Read(1, off, n)
			first = first[:cap(first)]
			for k := range first {
				first[k] = 255
			}
			if !bytes.Equal(second, due) {
				t.Fatalf("Read(1, %d, %d): %v became %v with another answer", off, n, due, second)
			}
			checkSame(t, "an answer changed", f, r)
			write(t, f, r, 1, 0, make([]byte, 64))
			give(t, f, r, 1)
			f.Take()
			if !bytes.Equal(second, due) {
				t.Fatalf("Read(1, %d, %d): %v became %v with the frame", off, n, due, second)
			}
		}
	}
}

// R4: what is written is neither changed, its spare room neither, nor kept.
func TestWriteKeepsNothing(t *testing.T) {
	for _, n := range []int{0, 1, 5, 64, 65} {
		f, r := made(t, 2, 2)
		room := pattern(100, n)
		before := bytes.Clone(room)
		write(t, f, r, 1, 0, room[:n])
		if !bytes.Equal(room, before) {
			t.Errorf("%d bytes handed in: %v became %v", n, before, room)
		}
		for k := range room {
			room[k] = 0
		}
		checkSame(t, "what was handed in changed", f, r)
		clear(before)
		f.Write(1, 3, pattern(9, 4))
		if !bytes.Equal(room, before) {
			t.Errorf("%d bytes handed in: changed with the frame: %v", n, room)
		}
	}
}

// Each answer of New stands alone.
func TestApart(t *testing.T) {
	f, r := made(t, 3, 2)
	g, q := made(t, 3, 1)
	write(t, f, r, 0, 5, []byte{7, 7})
	give(t, f, r, 1)
	checkSame(t, "the other one", g, q)
	checkEmptied(t, "the other one", g, q)
	checkSame(t, "the one", f, r)
	checkEmptied(t, "the one", f, r)
}

// kinds are the calls that change frames, on so few of them that they meet; they answer the same of f and of r.
func kinds(n int) []func(f *Frames, r *rows) bool {
	list := []func(f *Frames, r *rows) bool{
		func(f *Frames, r *rows) bool {
			got, e := f.Take()
			due, wrong := r.take()
			return got == due && e == wrong
		},
	}
	for i := -1; i <= n; i++ {
		list = append(list,
			func(f *Frames, r *rows) bool { return f.Give(i) == r.give(i) },
			func(f *Frames, r *rows) bool {
				b := pattern(3, i+2)
				return f.Write(i, 20, b) == r.write(i, 20, b)
			})
	}
	return list
}

// P4.1 and P4.2: all plays of six calls on two frames.
func TestAllShortPlays(t *testing.T) {
	const length = 6
	calls := kinds(2)
	plays := 1
	for range length {
		plays *= len(calls)
	}
	for play := range plays {
		f, _ := New(2)
		r := newRows(2)
		for rest, i := play, 0; i < length; i++ {
			if !calls[rest%len(calls)](f, r) {
				t.Fatalf("play %d: call %d answers something else", play, i)
			}
			rest /= len(calls)
		}
		checkSame(t, "a short play", f, r)
	}
}

// P4.1 and P4.2: long plays by a rule of their own, on many frames.
func TestLongPlays(t *testing.T) {
	state := uint64(1)
	draw := func(n int) int {
		state = state*6364136223846793005 + 1442695040888963407
		return int(state >> 33 % uint64(n))
	}
	for range 20 {
		n := 1 + draw(64)
		f, r := made(t, n, 0)
		for step := range 2000 {
			i, off, size := draw(n+2)-1, draw(67)-1, draw(66)
			switch draw(6) {
			case 0, 1, 2:
				got, e := f.Take()
				if due, wrong := r.take(); got != due || e != wrong {
					t.Fatalf("of %d, step %d: Take %d %d, not %d %d", n, step, got, e, due, wrong)
				}
			case 3, 4:
				give(t, f, r, i)
			case 5:
				write(t, f, r, i, off, pattern(size, step))
			}
			due, wrong := r.read(i, off, size)
			if got, e := f.Read(i, off, size); e != wrong || !bytes.Equal(got, due) {
				t.Fatalf("of %d, step %d: Read(%d, %d, %d): %v %d, not %v %d", n, step, i, off, size, got, e, due, wrong)
			}
			if step%50 == 0 {
				checkSame(t, "a long play", f, r)
			}
		}
		checkEmptied(t, "a long play", f, r)
	}
}
