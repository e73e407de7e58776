package store_test

import (
	"bytes"
	"maps"
	"math"
	"math/rand"
	"slices"
	"testing"

	"coxswain/api"
	"coxswain/frames"
	"coxswain/store"
)

// From the document: bytes of a frame, frames of a file, bytes of a file.
const (
	frameBytes = 64
	mostBlocks = 8
	mostBytes  = 512
)

// book keeps files as the promises tell them: each one's bytes in one list, and how many frames there are for all of them.
type book struct {
	frames int // without those that others took
	files  map[int][]byte
}

// fills is how many frames so many bytes fill, up: counted frame by frame.
func fills(size int) int {
	count := 0
	for size > 0 {
		size -= frameBytes
		count++
	}
	return count
}

func (k *book) free() int {
	count := k.frames
	for _, b := range k.files {
		count -= fills(len(b))
	}
	return count
}

func (k *book) has(id int) bool {
	_, ok := k.files[id]
	return ok
}

func (k *book) make(id int) api.Errno {
	if id < 0 {
		return api.ErrArg
	}
	if k.has(id) {
		return api.ErrBusy
	}
	k.files[id] = []byte{}
	return api.OK
}

func (k *book) drop(id int) api.Errno {
	if !k.has(id) {
		return api.ErrNone
	}
	delete(k.files, id)
	return api.OK
}

func (k *book) cut(id int) api.Errno {
	if !k.has(id) {
		return api.ErrNone
	}
	k.files[id] = []byte{}
	return api.OK
}

func (k *book) size(id int) (int, api.Errno) {
	if !k.has(id) {
		return 0, api.ErrNone
	}
	return len(k.files[id]), api.OK
}

func (k *book) read(id int, off int, n int) ([]byte, api.Errno) {
	if !k.has(id) {
		return nil, api.ErrNone
	}
	if off < 0 || n < 0 {
		return nil, api.EINVAL
	}
	got := []byte{}
	for at, x := range k.files[id] {
		if at >= off && len(got) < n {
			got = append(got, x)
		}
	}
	return got, api.OK
}

func (k *book) write(id int, off int, b []byte) api.Errno {
	if !k.has(id) {
		return api.ErrNone
	}
	if off < 0 {
		return api.EINVAL
	}
	if len(b) == 0 {
		return api.OK
	}
	if off > mostBytes || len(b) > mostBytes || off+len(b) > mostBytes {
		return api.ENOSPC
	}
	old := k.files[id]
	long := make([]byte, max(len(old), off+len(b)))
	copy(long, old)
	if fills(len(long))-fills(len(old)) > k.free() {
		return api.ENOSPC
	}
	copy(long[off:], b)
	k.files[id] = long
	return api.OK
}

// both is a store, the frames beneath it, and the same as a book. Others took the frames in theirs, each full of bytes of their own.
type both struct {
	t      *testing.T
	f      *frames.Frames
	s      *store.Store
	k      *book
	theirs map[int][]byte
}

// over answers a new store over n frames.
func over(t *testing.T, n int) *both {
	t.Helper()
	f, e := frames.New(n)
	if e != api.OK {
		t.Fatalf("frames.New(%d): %d", n, e)
	}
	return &both{t, f, store.New(f), &book{n, map[int][]byte{}}, map[int][]byte{}}
}

// holding answers a new store over n frames with one file for each of these sizes, by the numbers from 0 on, full of bytes none of which is 0.
func holding(t *testing.T, n int, sizes ...int) *both {
	t.Helper()
	x := over(t, n)
	for id, size := range sizes {
		x.make(id, api.OK)
		x.write(id, 0, pattern(size, id), api.OK)
	}
	return x
}

// pattern answers n bytes, none of which is 0.
func pattern(n int, seed int) []byte {
	b := make([]byte, n)
	for k := range b {
		b[k] = byte(1 + (seed*37+k*5+k/64*11)%251)
	}
	return b
}

// want is told what a call answered, and what the book did; and, if it is known at that place, what is written out there.
func (x *both) want(what string, id int, got api.Errno, due api.Errno, written ...api.Errno) {
	x.t.Helper()
	for _, e := range append(written, due) {
		if got != e {
			x.t.Fatalf("%s of %d: %d, not %d", what, id, got, e)
		}
	}
}

func (x *both) make(id int, written ...api.Errno) {
	x.t.Helper()
	x.want("Make", id, x.s.Make(id), x.k.make(id), written...)
}

func (x *both) drop(id int, written ...api.Errno) {
	x.t.Helper()
	x.want("Drop", id, x.s.Drop(id), x.k.drop(id), written...)
}

func (x *both) cut(id int, written ...api.Errno) {
	x.t.Helper()
	x.want("Cut", id, x.s.Cut(id), x.k.cut(id), written...)
}

func (x *both) write(id int, off int, b []byte, written ...api.Errno) {
	x.t.Helper()
	due := x.k.write(id, off, b)
	got := x.s.Write(id, off, b)
	for _, e := range append(written, due) {
		if got != e {
			x.t.Fatalf("Write(%d, %d, of %d) with %d frames free: %d, not %d", id, off, len(b), x.f.Free(), got, e)
		}
	}
}

func (x *both) read(id int, off int, n int) {
	x.t.Helper()
	due, wrong := x.k.read(id, off, n)
	if got, e := x.s.Read(id, off, n); e != wrong || !bytes.Equal(got, due) {
		x.t.Fatalf("Read(%d, %d, %d): %v %d, not %v %d", id, off, n, got, e, due, wrong)
	}
}

// take lets others have so many frames more.
func (x *both) take(n int) {
	x.t.Helper()
	for range n {
		i, e := x.f.Take()
		if e != api.OK {
			x.t.Fatalf("frames.Take: %d", e)
		}
		x.theirs[i] = pattern(frameBytes, 100+i)
		x.f.Write(i, 0, x.theirs[i])
		x.k.frames--
	}
}

// give lets others give one frame of theirs back, the least.
func (x *both) give() {
	x.t.Helper()
	for _, i := range slices.Sorted(maps.Keys(x.theirs))[:1] {
		if e := x.f.Give(i); e != api.OK {
			x.t.Fatalf("frames.Give(%d): %d", i, e)
		}
		delete(x.theirs, i)
		x.k.frames++
	}
}

// told holds all that the store tells of file id against the book.
func (x *both) told(what string, id int) {
	x.t.Helper()
	due, wrong := x.k.size(id)
	if size, e := x.s.Size(id); size != due || e != wrong {
		x.t.Fatalf("%s: Size(%d): %d %d, not %d %d", what, id, size, e, due, wrong)
	}
	if got := x.s.Blocks(id); got != fills(due) {
		x.t.Fatalf("%s: Blocks(%d): %d, not %d", what, id, got, fills(due))
	}
	all, wrong := x.k.read(id, 0, mostBytes)
	if got, e := x.s.Read(id, 0, math.MaxInt); e != wrong || !bytes.Equal(got, all) {
		x.t.Fatalf("%s: file %d: %v %d, not %v %d", what, id, got, e, all, wrong)
	}
}

// check holds all that the store and the frames beneath it tell against the book, of all files and of some numbers that need be none.
func (x *both) check(what string) {
	x.t.Helper()
	for id := range x.k.files {
		x.told(what, id)
	}
	for id := -1; id < 4; id++ {
		x.told(what, id)
	}
	if got, due := x.f.Free(), x.k.free(); got != due {
		x.t.Fatalf("%s: %d frames are free, not %d", what, got, due)
	}
	for i, due := range x.theirs {
		if got, e := x.f.Read(i, 0, frameBytes); e != api.OK || !bytes.Equal(got, due) {
			x.t.Fatalf("%s: frame %d of others: %v %d, not %v", what, i, got, e, due)
		}
	}
}

// checkEmptied fills what is free with one file more, drops all files, and takes each frame that they had.
func (x *both) checkEmptied(what string) {
	x.t.Helper()
	const one = 1 << 40
	x.make(one, api.OK)
	x.write(one, 0, pattern(min(x.k.free()*frameBytes, mostBytes), 77), api.OK)
	x.check(what)
	for _, id := range slices.Sorted(maps.Keys(x.k.files)) {
		x.drop(id, api.OK)
		x.check(what)
	}
	x.take(x.k.frames)
	if _, e := x.f.Take(); e != api.ErrFull {
		x.t.Fatalf("%s: there is a frame too many: %d", what, e)
	}
	x.check(what)
}

// strangers are numbers far off: just beside the bounds, the least and the greatest, and those that would be well if their higher bits were lost.
func strangers() []int {
	return []int{
		math.MinInt, math.MinInt + 1, math.MinInt + 64, math.MinInt + 512, math.MinInt32, -1 << 32, -513, -512, -65, -64, -2, -1,
		513, 514, 576, 1 << 10, 1 << 16, 1<<16 + 1, 1 << 32, 1<<32 + 1, 1<<32 + 64, 1 << 62,
		math.MaxInt32, math.MaxInt - 512, math.MaxInt - 511, math.MaxInt - 64, math.MaxInt - 1, math.MaxInt,
	}
}

// edges are places and numbers of bytes about the ends of frames and of a file.
func edges() []int {
	return []int{0, 1, 2, 5, 62, 63, 64, 65, 66, 127, 128, 129, 191, 192, 193, 255, 256, 257, 300, 383, 384, 385, 447, 448, 449, 510, 511, 512, 513, 514}
}

// P20.1, P20.2: the document's example.
func TestExample(t *testing.T) {
	f, _ := frames.New(1)
	s := store.New(f)
	if e := s.Make(1); e != api.OK {
		t.Errorf("Make(1): %d", e)
	}
	if e := s.Write(1, 3, []byte("ab")); e != api.OK {
		t.Errorf("Write(1, 3, ab): %d", e)
	}
	if b, e := s.Read(1, 0, 9); e != api.OK || string(b) != "\x00\x00\x00ab" {
		t.Errorf("Read(1, 0, 9): %v %d", b, e)
	}
	if n := s.Blocks(1); n != 1 {
		t.Errorf("Blocks(1): %d", n)
	}
}

// P20.1: a new store has no files, takes no frames, and keeps its frames.
func TestNew(t *testing.T) {
	for _, n := range []int{1, 8, 64} {
		x := over(t, n)
		if x.s == nil {
			t.Fatalf("New over %d frames: nil", n)
		}
		for _, id := range append(strangers(), 0, 1) {
			x.told("new", id)
			x.drop(id, api.ErrNone)
			x.cut(id, api.ErrNone)
		}
		x.check("new")
		x.checkEmptied("new")
	}
}

// P20.1: Make of numbers below 0, of 0, of any other, of one that is there, of one that was dropped.
func TestMake(t *testing.T) {
	x := over(t, 4)
	for _, id := range append(strangers(), 0, 1, 63, 64) {
		want := api.OK
		if id < 0 {
			want = api.ErrArg
		}
		x.make(id, want)
		x.told("made", id)
	}
	if got := x.f.Free(); got != 4 {
		t.Errorf("4 frames, and empty files alone: %d are free", got)
	}
	x.write(0, 0, pattern(70, 1), api.OK)
	for range 3 {
		x.make(0, api.ErrBusy)
		x.make(1, api.ErrBusy)
		x.make(-1, api.ErrArg)
		x.check("made again")
	}
	x.drop(0, api.OK)
	x.drop(math.MaxInt, api.OK)
	x.make(0, api.OK)
	x.make(math.MaxInt, api.OK)
	x.make(0, api.ErrBusy)
	x.check("made after a drop")
	if b, e := x.s.Read(0, 0, 512); len(b) != 0 || e != api.OK {
		t.Errorf("a file that was dropped and made again: %v %d", b, e)
	}
	x.cut(1, api.OK)
	x.make(1, api.ErrBusy)
	x.checkEmptied("made")
}

// P20.1: a file is made where no frame is free.
func TestMakeOfNoFrames(t *testing.T) {
	x := over(t, 2)
	x.take(2)
	for id := range 3 {
		x.make(id, api.OK)
		x.write(id, 0, pattern(1, id), api.ENOSPC)
		x.write(id, 0, nil, api.OK)
		x.check("no frames")
	}
	x.drop(1, api.OK)
	x.make(1, api.OK)
	x.give()
	x.write(1, 0, pattern(1, 1), api.OK)
	x.check("one frame")
	x.checkEmptied("one frame")
}

// P20.1: files are told apart by their whole numbers.
func TestNumbers(t *testing.T) {
	x := over(t, 20)
	ids := []int{0, 1, 2, 63, 64, 255, 256, 1 << 16, 1 << 32, 1<<32 + 1, 1 << 62, math.MaxInt32, math.MaxInt}
	for k, id := range ids {
		x.make(id, api.OK)
		x.write(id, k, pattern(10+k, k), api.OK)
	}
	x.check("many")
	for k, id := range ids {
		switch k % 3 {
		case 0:
			x.drop(id, api.OK)
		case 1:
			x.cut(id, api.OK)
		}
		x.check("fewer")
	}
	for _, id := range ids {
		x.make(id)
		x.check("made again")
	}
	x.checkEmptied("many")
}

// P20.1: Drop and Cut give all frames back, of each size that a file may have; another file stays.
func TestDropAndCut(t *testing.T) {
	for size := 0; size <= mostBytes; size++ {
		x := holding(t, 10, size, 100)
		if got := x.f.Free(); got != 10-2-fills(size) {
			t.Fatalf("of %d and 100 bytes: %d frames are free", size, got)
		}
		x.cut(0, api.OK)
		x.check("cut")
		if got := x.f.Free(); got != 8 {
			t.Fatalf("cut of %d bytes: %d frames are free, not 8", size, got)
		}
		x.cut(0, api.OK)
		x.write(0, 0, pattern(size, 3), api.OK)
		x.check("written after a cut")
		x.drop(0, api.OK)
		x.check("dropped")
		if got := x.f.Free(); got != 8 {
			t.Fatalf("drop of %d bytes: %d frames are free, not 8", size, got)
		}
		x.drop(0, api.ErrNone)
		x.cut(0, api.ErrNone)
		x.check("dropped again")
		x.checkEmptied("dropped")
	}
}

// P20.1: Drop and Cut of numbers that are no file's.
func TestDropAndCutOfNone(t *testing.T) {
	x := holding(t, 9, 512, 0, 64)
	for _, id := range append(strangers(), 3, 64) {
		x.drop(id, api.ErrNone)
		x.cut(id, api.ErrNone)
		x.told("of none", id)
		x.check("of none")
	}
	x.checkEmptied("of none")
}

// P20.1: frames that were given back are all there again, for others and for other files.
func TestFramesComeBack(t *testing.T) {
	for _, size := range []int{0, 1, 64, 65, 512} {
		x := holding(t, 8, size)
		for k := range 5 {
			if k%2 == 0 {
				x.cut(0, api.OK)
			} else {
				x.drop(0, api.OK)
				x.make(0, api.OK)
			}
			x.take(8)
			x.check("taken by others")
			x.write(0, 0, pattern(1, 1), api.ENOSPC)
			for range 8 {
				x.give()
			}
			x.write(0, 0, pattern(512, k), api.OK)
			x.check("written again")
		}
		x.checkEmptied("come back")
	}
}

// P20.1: Blocks is as many as the size fills, up, and Size what it is, for each size: of one write, of growing by each byte, of a last byte alone.
func TestSizeAndBlocks(t *testing.T) {
	grown := over(t, 8)
	grown.make(5, api.OK)
	for size := 0; size <= mostBytes; size++ {
		once := holding(t, 8, size)
		once.check("written at once")
		last := over(t, 8)
		last.make(0, api.OK)
		if size > 0 {
			last.write(0, size-1, []byte{9}, api.OK)
			grown.write(5, size-1, []byte{byte(size)}, api.OK)
		}
		last.check("its last byte alone")
		grown.check("grown")
	}
	for _, c := range []struct{ size, want int }{{0, 0}, {1, 1}, {63, 1}, {64, 1}, {65, 2}, {128, 2}, {129, 3}, {448, 7}, {449, 8}, {511, 8}, {512, 8}} {
		x := holding(t, 64, c.size)
		if got := x.s.Blocks(0); got != c.want || x.f.Free() != 64-c.want {
			t.Errorf("Blocks of %d bytes: %d, %d frames are free", c.size, got, x.f.Free())
		}
		if n, e := x.s.Size(0); n != c.size || e != api.OK {
			t.Errorf("Size of %d bytes: %d %d", c.size, n, e)
		}
	}
}

// P20.2: Read at and about all edges of files of all such sizes.
func TestRead(t *testing.T) {
	for _, size := range []int{0, 1, 63, 64, 65, 127, 128, 129, 300, 448, 449, 511, 512} {
		x := holding(t, 17, 512, size)
		for _, off := range append(edges(), -2, -1, size-1, size, size+1) {
			for n := -2; n <= 515; n++ {
				x.read(1, off, n)
				x.read(1, n, off)
			}
		}
		x.check("read")
		x.checkEmptied("read")
	}
}

// P20.2: off and n as great, and as far below 0, as an int may be.
func TestReadStrangers(t *testing.T) {
	x := holding(t, 10, 100, 64)
	some := append(strangers(), edges()...)
	for _, off := range some {
		for _, n := range some {
			for _, id := range []int{-1, 0, 1, 2} {
				x.read(id, off, n)
			}
		}
	}
	for _, c := range []struct {
		off, n, long int
		want         api.Errno
	}{
		{0, 100, 100, api.OK}, {0, 99, 99, api.OK}, {0, 101, 100, api.OK}, {99, 1, 1, api.OK}, {99, 9, 1, api.OK}, {100, 1, 0, api.OK}, {100, 0, 0, api.OK},
		{0, math.MaxInt, 100, api.OK}, {1, math.MaxInt, 99, api.OK}, {99, math.MaxInt, 1, api.OK}, {100, math.MaxInt, 0, api.OK}, {math.MaxInt, math.MaxInt, 0, api.OK}, {math.MaxInt, 0, 0, api.OK}, {math.MaxInt, 1, 0, api.OK},
		{-1, 0, 0, api.EINVAL}, {0, -1, 0, api.EINVAL}, {-1, -1, 0, api.EINVAL}, {math.MinInt, 1, 0, api.EINVAL}, {0, math.MinInt, 0, api.EINVAL}, {100, -1, 0, api.EINVAL}, {math.MaxInt, -1, 0, api.EINVAL}, {-1, math.MaxInt, 0, api.EINVAL},
	} {
		if b, e := x.s.Read(0, c.off, c.n); len(b) != c.long || e != c.want {
			t.Errorf("Read(0, %d, %d) of 100 bytes: %d bytes, %d", c.off, c.n, len(b), e)
		}
	}
	x.check("read")
}

// P20.2, R6: Read of no file is ErrNone, whatever is asked of it.
func TestReadOfNone(t *testing.T) {
	x := holding(t, 3, 10)
	x.make(1, api.OK)
	x.drop(1, api.OK)
	for _, id := range append(strangers(), 1, 2) {
		for _, off := range []int{-1, 0, 1, 64, math.MinInt, math.MaxInt} {
			for _, n := range []int{-1, 0, 1, 512, math.MinInt, math.MaxInt} {
				if b, e := x.s.Read(id, off, n); len(b) != 0 || e != api.ErrNone {
					t.Fatalf("Read(%d, %d, %d): %v %d", id, off, n, b, e)
				}
			}
		}
	}
	x.check("read of none")
}

// P20.2: writes at all edges of as many bytes as all edges are, into files of all such sizes: what lies between is zeros, also where the frames held other bytes before; what is refused changes nothing.
func TestWrite(t *testing.T) {
	for _, size := range []int{0, 1, 63, 64, 65, 128, 130, 300, 448, 449, 511, 512} {
		for _, off := range append(edges(), -1, size-1, size, size+1) {
			for _, n := range edges() {
				x := holding(t, 9, size)
				x.make(1, api.OK)
				x.write(1, 0, bytes.Repeat([]byte{255}, 64*(9-fills(size)-1)), api.OK)
				x.drop(1, api.OK)
				x.write(0, off, pattern(n, 6))
				x.check("written")
			}
		}
	}
}

// P20.2: a second write behind, over, ahead of the end of, and far from a first one.
func TestWriteTwice(t *testing.T) {
	offs := []int{0, 1, 60, 64, 65, 130, 500, 511}
	long := []int{1, 4, 64, 70, 200, 512}
	for _, a := range offs {
		for _, n := range long {
			for _, b := range offs {
				for _, m := range long {
					x := over(t, 8)
					x.make(0, api.OK)
					x.write(0, a, pattern(n, 1))
					x.write(0, b, pattern(m, 2))
					x.check("written twice")
				}
			}
		}
	}
}

// P20.2: the edges of Write, written out.
func TestWriteEdges(t *testing.T) {
	for _, c := range []struct {
		off, n int
		want   api.Errno
		size   int
	}{
		{0, 512, api.OK, 512}, {0, 511, api.OK, 511}, {0, 513, api.ENOSPC, 9}, {1, 511, api.OK, 512}, {1, 512, api.ENOSPC, 9}, {511, 1, api.OK, 512}, {511, 2, api.ENOSPC, 9}, {510, 1, api.OK, 511},
		{512, 1, api.ENOSPC, 9}, {512, 0, api.OK, 9}, {513, 0, api.OK, 9}, {513, 1, api.ENOSPC, 9}, {9, 1, api.OK, 10}, {8, 1, api.OK, 9}, {10, 1, api.OK, 11}, {0, 0, api.OK, 9}, {9, 0, api.OK, 9}, {10, 0, api.OK, 9}, {3, 3, api.OK, 9},
		{math.MaxInt, 0, api.OK, 9}, {math.MaxInt, 1, api.ENOSPC, 9}, {math.MaxInt, 512, api.ENOSPC, 9}, {math.MaxInt, 600, api.ENOSPC, 9}, {math.MaxInt - 1, 2, api.ENOSPC, 9}, {math.MaxInt - 511, 512, api.ENOSPC, 9},
		{-1, 0, api.EINVAL, 9}, {-1, 1, api.EINVAL, 9}, {-1, 2, api.EINVAL, 9}, {-1, 513, api.EINVAL, 9}, {-1, 600, api.EINVAL, 9}, {math.MinInt, 0, api.EINVAL, 9}, {math.MinInt, 1, api.EINVAL, 9}, {math.MinInt, 600, api.EINVAL, 9},
	} {
		x := holding(t, 8, 9)
		x.write(0, c.off, pattern(c.n, 4), c.want)
		if n, e := x.s.Size(0); n != c.size || e != api.OK {
			t.Errorf("Write(0, %d, of %d): Size %d %d, not %d", c.off, c.n, n, e, c.size)
		}
		x.check("written")
		x.checkEmptied("written")
	}
}

// P20.2: off as great, and as far below 0, as an int may be, of few and of very many bytes.
func TestWriteStrangers(t *testing.T) {
	x := holding(t, 10, 100, 64)
	great := make([]byte, 1<<20)
	for _, off := range append(strangers(), 0, 1, 511, 512) {
		for _, id := range append(strangers(), 0, 1, 2) {
			for _, b := range [][]byte{nil, {}, {1}, great[:513], great[:1<<16], great} {
				if off < 0 || off > 511 || len(b) > 512 || len(b) == 0 {
					x.write(id, off, b)
				}
			}
		}
	}
	x.check("strange writes")
	x.checkEmptied("strange writes")
}

// P20.2: nothing is written of no bytes, wherever: the size stays, and no frame is taken.
func TestWriteNothing(t *testing.T) {
	for _, size := range []int{0, 1, 64, 100, 512} {
		for _, taken := range []int{0, 1} {
			x := holding(t, 9, size)
			if taken == 1 {
				x.take(x.k.free())
			}
			for _, off := range append(edges(), 1000, 1<<40, math.MaxInt) {
				x.write(0, off, nil, api.OK)
				x.write(0, off, []byte{}, api.OK)
				x.write(0, off, make([]byte, 0, 70), api.OK)
			}
			x.check("nothing written")
		}
	}
}

// P20.2: bytes of each value are kept at each place, zeros over others too.
func TestWriteValues(t *testing.T) {
	x := holding(t, 8, 512)
	for at := range mostBytes {
		x.write(0, at, []byte{byte(at), byte(at >> 8)}[:min(2, mostBytes-at)], api.OK)
	}
	x.check("each value")
	x.write(0, 30, make([]byte, 300), api.OK)
	x.check("zeros")
	x.write(0, 60, pattern(9, 1), api.OK)
	x.write(0, 64, pattern(64, 2), api.OK)
	x.write(0, 130, pattern(1, 3), api.OK)
	x.check("over zeros")
	x.write(0, 0, pattern(512, 5), api.OK)
	x.check("whole")
}

// P20.2: a gap is zeros where this file's own frames, another file's, or others' held bytes before.
func TestGap(t *testing.T) {
	for _, off := range []int{1, 5, 63, 64, 65, 127, 128, 200, 448, 511} {
		for _, how := range []string{"cut", "dropped", "another file's", "others'"} {
			x := over(t, 8)
			x.make(0, api.OK)
			x.make(1, api.OK)
			full := bytes.Repeat([]byte{170}, mostBytes)
			switch how {
			case "cut":
				x.write(0, 0, full, api.OK)
				x.cut(0, api.OK)
			case "dropped":
				x.write(0, 0, full, api.OK)
				x.drop(0, api.OK)
				x.make(0, api.OK)
			case "another file's":
				x.write(1, 0, full, api.OK)
				x.cut(1, api.OK)
			default:
				x.take(8)
				for range 8 {
					x.give()
				}
			}
			x.write(0, off, []byte{7}, api.OK)
			x.check(how)
			got, e := x.s.Read(0, 0, off)
			if e != api.OK || !bytes.Equal(got, make([]byte, off)) {
				t.Errorf("%s: ahead of %d: %v %d", how, off, got, e)
			}
			x.write(0, 511, []byte{8}, api.OK)
			x.check(how)
			x.checkEmptied(how)
		}
	}
}

// P20.2: a write needs just as many frames as it has more than the file: with as many free it is done, with one less it isn't, and with none it is if it needs none.
func TestFramesNeeded(t *testing.T) {
	sizes := []int{0, 1, 63, 64, 65, 128, 129, 256, 449, 512}
	for _, size := range sizes {
		for _, end := range []int{1, 63, 64, 65, 127, 128, 129, 192, 193, 256, 257, 320, 384, 448, 449, 511, 512} {
			for _, long := range []int{1, 2, end} {
				off := end - long
				if off < 0 {
					continue
				}
				need := max(fills(end)-fills(size), 0)
				for free := range need + 2 {
					x := holding(t, 17, size)
					x.take(x.k.free() - free)
					want := api.OK
					if free < need {
						want = api.ENOSPC
					}
					x.write(0, off, pattern(long, 8), want)
					x.check("few frames")
				}
			}
		}
	}
}

// P20.2: frames that other files have are not free, and are when they are given back.
func TestFramesOfOtherFiles(t *testing.T) {
	x := holding(t, 12, 512, 200)
	x.make(2, api.OK)
	x.write(2, 0, pattern(1, 2), api.ENOSPC)
	x.write(1, 200, pattern(56, 2), api.OK)
	x.write(1, 256, pattern(1, 2), api.ENOSPC)
	x.write(1, 255, pattern(2, 2), api.ENOSPC)
	x.check("no frame is free")
	x.cut(1, api.OK)
	x.write(2, 0, pattern(257, 2), api.ENOSPC)
	x.check("one less than is needed")
	x.write(2, 0, pattern(256, 2), api.OK)
	x.check("as many as are needed")
	x.write(1, 0, pattern(1, 2), api.ENOSPC)
	x.drop(0, api.OK)
	x.write(1, 0, pattern(512, 2), api.OK)
	x.check("given back")
	x.checkEmptied("other files")
}

// P20.3: a write that is refused changes nothing: no size, no byte of this file or of another one, no frame.
func TestRefusedChangesNothing(t *testing.T) {
	for _, size := range []int{0, 1, 64, 65, 300, 448} {
		for free := range 9 {
			x := holding(t, 24, size, 100)
			x.take(x.k.free() - free)
			rest := (fills(size) + free) * frameBytes
			for _, off := range []int{0, 1, size / 2, size, size + 1, rest - 1, rest, 511, 512, 513, math.MaxInt, -1, math.MinInt} {
				for _, n := range []int{1, 2, 64, 65, rest, rest + 1, 512, 513, 1000} {
					if n == 0 || fits(off, n, rest) {
						continue
					}
					if e := x.s.Write(0, off, pattern(n, 9)); e == api.OK {
						t.Fatalf("Write(0, %d, of %d) of %d bytes with %d frames free: %d", off, n, size, free, e)
					}
					x.s.Write(2, off, pattern(n, 9))
					x.s.Write(-1, off, pattern(n, 9))
					x.check("refused")
				}
			}
			x.checkEmptied("refused")
		}
	}
}

// fits answers whether n bytes from off on are no more than a file may have, and than there is room for.
func fits(off int, n int, room int) bool {
	return off >= 0 && off <= mostBytes && off+n <= mostBytes && off+n <= room
}

// P20.3, R5: behind what was refused all goes on as if it had not been asked: the frames come in the same order too.
func TestRefusedLeavesTheFrames(t *testing.T) {
	order := func(ask bool) []int {
		x := holding(t, 12, 100, 100, 100)
		x.drop(1, api.OK)
		if ask {
			x.write(0, 512, pattern(1, 1), api.ENOSPC)
			x.write(0, 0, pattern(513, 1), api.ENOSPC)
			x.write(1, 0, pattern(500, 1), api.ErrNone)
			x.write(0, -1, pattern(500, 1), api.EINVAL)
			x.take(2)
			x.write(2, 500, pattern(12, 1), api.OK)
			x.write(0, 300, pattern(212, 1), api.ENOSPC)
			x.drop(2, api.OK)
			x.make(2, api.OK)
		} else {
			x.take(2)
			x.write(2, 500, pattern(12, 1), api.OK)
			x.drop(2, api.OK)
			x.make(2, api.OK)
		}
		var list []int
		for i, e := x.f.Take(); e == api.OK; i, e = x.f.Take() {
			list = append(list, i)
		}
		return list
	}
	if asked, not := order(true), order(false); !slices.Equal(asked, not) {
		t.Errorf("frames come as %v behind refused writes, else as %v", asked, not)
	}
}

// R6: of several errors the one that the chapter names first is told.
func TestFirstError(t *testing.T) {
	x := holding(t, 8, 10)
	x.take(7)
	great := make([]byte, 600)
	for _, c := range []struct {
		what string
		got  api.Errno
		want api.Errno
	}{
		{"Write of no file, off below 0", x.s.Write(7, -1, great[:1]), api.ErrNone},
		{"Write of no file, of nothing", x.s.Write(7, 0, nil), api.ErrNone},
		{"Write of no file, too great", x.s.Write(7, 0, great), api.ErrNone},
		{"Write of no file, too far", x.s.Write(7, math.MaxInt, great), api.ErrNone},
		{"Write of a number below 0, off below 0", x.s.Write(-7, -1, great), api.ErrNone},
		{"Write, off below 0, of nothing", x.s.Write(0, -1, nil), api.EINVAL},
		{"Write, off below 0, too great", x.s.Write(0, -1, great), api.EINVAL},
		{"Write, off far below 0, too great", x.s.Write(0, math.MinInt, great), api.EINVAL},
		{"Write, too far, of nothing", x.s.Write(0, math.MaxInt, great[:0]), api.OK},
		{"Write, too few frames, of nothing", x.s.Write(0, 500, great[:0]), api.OK},
		{"Write, too great, too few frames", x.s.Write(0, 0, great), api.ENOSPC},
		{"Make of a number below 0", x.s.Make(-1), api.ErrArg},
		{"Make of a number below 0 once more", x.s.Make(-1), api.ErrArg},
	} {
		if c.got != c.want {
			t.Errorf("%s: %d, not %d", c.what, c.got, c.want)
		}
	}
	for _, id := range []int{-1, 7} {
		if b, e := x.s.Read(id, -1, -1); len(b) != 0 || e != api.ErrNone {
			t.Errorf("Read(%d, -1, -1): %v %d", id, b, e)
		}
	}
	x.check("first errors")
}

// P20.1, P20.2: what only tells changes nothing, and tells the same again.
func TestTellingChangesNothing(t *testing.T) {
	x := holding(t, 12, 200, 0, 64)
	for range 3 {
		for id := -1; id < 5; id++ {
			x.s.Size(id)
			x.s.Blocks(id)
			x.s.Read(id, 0, 100)
			x.s.Read(id, 150, 100)
			x.s.Read(id, 600, 100)
			x.s.Read(id, -1, 1)
			x.check("asked")
		}
	}
	x.checkEmptied("asked")
}

// R3: of no store each call says so, whatever it is asked.
func TestNil(t *testing.T) {
	var s *store.Store
	some := append(strangers(), 0, 1)
	for _, id := range some {
		if e := s.Make(id); e != api.ErrNil {
			t.Errorf("Make(%d): %d", id, e)
		}
		if e := s.Drop(id); e != api.ErrNil {
			t.Errorf("Drop(%d): %d", id, e)
		}
		if e := s.Cut(id); e != api.ErrNil {
			t.Errorf("Cut(%d): %d", id, e)
		}
		if n, e := s.Size(id); n != 0 || e != api.ErrNil {
			t.Errorf("Size(%d): %d %d", id, n, e)
		}
		if n := s.Blocks(id); n != 0 {
			t.Errorf("Blocks(%d): %d", id, n)
		}
		for _, off := range some {
			if b, e := s.Read(id, off, off); len(b) != 0 || e != api.ErrNil {
				t.Errorf("Read(%d, %d, %d): %v %d", id, off, off, b, e)
			}
			for _, b := range [][]byte{nil, {}, {1}, make([]byte, 600)} {
				if e := s.Write(id, off, b); e != api.ErrNil {
					t.Errorf("Write(%d, %d, of %d): %d", id, off, len(b), e)
				}
			}
		}
	}
}

// R4: what is read is new memory, its spare room too: no file changes with it, nor another answer, nor it with the file.
func TestReadIsNewMemory(t *testing.T) {
	for _, off := range []int{0, 1, 63, 64, 65, 130, 199, 200, 201} {
		for _, n := range []int{0, 1, 5, 63, 64, 65, 136, 200, 512} {
			x := holding(t, 9, 200, 300)
			due, _ := x.k.read(0, off, n)
			first, _ := x.s.Read(0, off, n)
			second, _ := x.s.Read(0, off, n)
			first = first[:cap(first)]
			for k := range first {
				first[k] ^= 255
			}
			if !bytes.Equal(second, due) {
				t.Fatalf("Read(0, %d, %d): %v became %v with another answer", off, n, due, second)
			}
			x.check("an answer changed")
			third, _ := x.s.Read(0, off, n)
			third = append(third, pattern(300, 7)...)
			x.check("an answer grew")
			x.write(0, 0, make([]byte, 250), api.OK)
			x.cut(0, api.OK)
			x.write(0, 0, make([]byte, 200), api.OK)
			x.drop(1, api.OK)
			if !bytes.Equal(second, due) || !bytes.Equal(third[:len(due)], due) {
				t.Fatalf("Read(0, %d, %d): %v became %v with the file", off, n, due, second)
			}
			x.check("the file changed")
		}
	}
}

// R4: what is written is neither changed, its spare room neither, nor kept, whether the write is done or refused.
func TestWriteKeepsNothing(t *testing.T) {
	for _, size := range []int{0, 10, 64, 300} {
		for _, off := range []int{0, 1, 60, 64, 310, 500, -1, math.MaxInt} {
			for _, n := range []int{0, 1, 5, 64, 65, 512, 513} {
				x := holding(t, 9, size, 20)
				room := pattern(600, n+1)
				before := bytes.Clone(room)
				x.write(0, off, room[:n])
				if !bytes.Equal(room, before) {
					t.Fatalf("Write(0, %d, of %d): what was handed in has changed", off, n)
				}
				for k := range room {
					room[k] ^= 255
				}
				x.check("what was handed in changed")
				before = bytes.Clone(room)
				x.write(0, 3, pattern(9, 4), api.OK)
				x.write(1, 0, pattern(64, 4), api.OK)
				x.cut(0, api.OK)
				if !bytes.Equal(room, before) {
					t.Fatalf("Write(0, %d, of %d): what was handed in changes with the file", off, n)
				}
			}
		}
	}
}

// R4: bytes that were read may be written, into the same file and into another one.
func TestReadIntoWrite(t *testing.T) {
	x := holding(t, 16, 200, 100)
	b, _ := x.s.Read(0, 10, 150)
	x.write(0, 70, b, api.OK)
	x.write(1, 90, b, api.OK)
	x.write(0, 0, b[:7], api.OK)
	x.check("read and written")
}

// Each answer of New stands alone; two over the same frames have files of their own, and share what is free.
func TestApart(t *testing.T) {
	x, y := holding(t, 9, 100, 200), holding(t, 9, 300)
	x.write(0, 90, pattern(50, 8), api.OK)
	x.drop(1, api.OK)
	y.check("the other one")
	y.cut(0, api.OK)
	x.check("the one")
	x.checkEmptied("the one")
	y.checkEmptied("the other one")

	f, _ := frames.New(5)
	a, b := store.New(f), store.New(f)
	if a.Make(1) != api.OK || b.Make(1) != api.OK || b.Make(1) != api.ErrBusy {
		t.Error("two over the same frames: Make")
	}
	if a.Write(1, 0, pattern(128, 1)) != api.OK || b.Write(1, 0, pattern(193, 2)) != api.ENOSPC || b.Write(1, 0, pattern(192, 2)) != api.OK || f.Free() != 0 {
		t.Error("two over the same frames: Write")
	}
	if got, e := a.Read(1, 0, 512); e != api.OK || !bytes.Equal(got, pattern(128, 1)) {
		t.Errorf("two over the same frames: the one reads %v %d", got, e)
	}
	if a.Drop(1) != api.OK || f.Free() != 2 || a.Blocks(1) != 0 || b.Blocks(1) != 3 {
		t.Error("two over the same frames: Drop")
	}
	if got, e := b.Read(1, 0, 512); e != api.OK || !bytes.Equal(got, pattern(192, 2)) {
		t.Errorf("two over the same frames: the other one reads %v %d", got, e)
	}
}

// calls are such as change a store, on so few files and frames that they meet.
func calls() []func(x *both) {
	list := []func(x *both){}
	for id := range 2 {
		list = append(list,
			func(x *both) { x.make(id) },
			func(x *both) { x.drop(id) },
			func(x *both) { x.cut(id) },
			func(x *both) { x.write(id, 0, []byte{byte(1 + id), 2}) },
			func(x *both) { x.write(id, 63, []byte{3, byte(4 + id)}) },
			func(x *both) { x.write(id, 70, []byte{byte(6 + id)}) },
		)
	}
	return append(list, func(x *both) { x.write(0, 1, pattern(127, 1)) })
}

// P20.1 to P20.3: all plays of five calls over three frames.
func TestAllShortPlays(t *testing.T) {
	const length = 5
	list := calls()
	plays := 1
	for range length {
		plays *= len(list)
	}
	for play := range plays {
		x := over(t, 3)
		for rest, i := play, 0; i < length; i++ {
			list[rest%len(list)](x)
			rest /= len(list)
		}
		x.check("a short play")
	}
}

// P20.1 to P20.3: long plays by a rule of their own, where others take frames and give them back.
func TestLongPlays(t *testing.T) {
	for seed := range 40 {
		draw := rand.New(rand.NewSource(int64(seed))).Intn
		n := 1 + draw(64)
		x := over(t, n)
		for step := range 1500 {
			id, off, size := draw(14)-1, draw(560)-8, draw(200)
			if draw(5) == 0 {
				size = draw(540)
			}
			switch draw(12) {
			case 0, 1:
				x.make(id)
			case 2:
				x.drop(id)
			case 3:
				x.cut(id)
			case 4:
				if x.f.Free() > 0 {
					x.take(1)
				}
			case 5:
				if len(x.theirs) > 0 {
					x.give()
				}
			default:
				x.write(id, off, pattern(size, step))
			}
			x.read(id, draw(560)-8, draw(560)-8)
			if step%25 == 0 {
				x.check("a long play")
			}
		}
		for len(x.theirs) > 0 {
			x.give()
		}
		x.checkEmptied("a long play")
	}
}

// Very many files, each of which has all frames in its turn.
func TestMany(t *testing.T) {
	const many = 50000
	f, _ := frames.New(8)
	s := store.New(f)
	for id := range many {
		if e := s.Make(id); e != api.OK {
			t.Fatalf("Make(%d): %d", id, e)
		}
	}
	for id := range many {
		if s.Write(id, 500, []byte{1, 2}) != api.OK || s.Blocks(id) != 8 || s.Cut(id) != api.OK {
			t.Fatalf("file %d of many", id)
		}
	}
	for id := range many {
		if e := s.Drop(id); e != api.OK {
			t.Fatalf("Drop(%d): %d", id, e)
		}
	}
	if f.Free() != 8 {
		t.Errorf("%d frames are free, not 8", f.Free())
	}
}
