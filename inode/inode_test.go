package inode_test

import (
	"bytes"
	"math"
	"math/rand"
	"slices"
	"strings"
	"testing"
	"unsafe"

	"coxswain/api"
	"coxswain/frames"
	"coxswain/inode"
	"coxswain/path"
	"coxswain/store"
)

// From the document: how many nodes there may be, entries of a directory, bytes of a frame, frames in all.
const (
	mostNodes   = 16
	mostEntries = 8
	frameBytes  = 64
	allFrames   = 64
)

// item is a node of the book.
type item struct {
	dir   bool
	opens int
	bytes []byte
}

// line is an entry of the book: where it stands, its name, what it names.
type line struct {
	dir  int
	name string
	id   int
}

// book keeps nodes as the promises tell them. All entries stand in one list, in the order in which they came; links are counted there.
type book struct {
	items map[int]*item
	lines []line
}

func newBook() *book { return &book{items: map[int]*item{0: {dir: true}}} }

func (k *book) links(id int) int {
	n := 0
	for _, l := range k.lines {
		if l.id == id {
			n++
		}
	}
	return n
}

func (k *book) has(id int) bool { return k.items[id] != nil }

func (k *book) isDir(id int) bool { return k.has(id) && k.items[id].dir }

// at answers where the entry of this name stands; -1 of none.
func (k *book) at(dir int, name string) int {
	for i, l := range k.lines {
		if l.dir == dir && l.name == name {
			return i
		}
	}
	return -1
}

// before answers whether the bytes of s come before those of u.
func before(s string, u string) bool {
	for i := range len(u) {
		if i == len(s) || s[i] < u[i] {
			return true
		}
		if s[i] > u[i] {
			return false
		}
	}
	return false
}

// list answers the entries of a directory, each put ahead of all whose names come behind its own.
func (k *book) list(dir int) []api.Entry {
	all := []api.Entry{}
	for _, l := range k.lines {
		if l.dir != dir {
			continue
		}
		at := 0
		for at < len(all) && before(all[at].Name, l.name) {
			at++
		}
		all = slices.Insert(all, at, api.Entry{Name: l.name, ID: l.id})
	}
	return all
}

// sweep takes away what nothing keeps, one after the other, till there is none.
func (k *book) sweep() {
	for again := true; again; {
		again = false
		for id := 1; id < mostNodes; id++ {
			if !k.has(id) || k.items[id].opens > 0 || k.links(id) > 0 {
				continue
			}
			delete(k.items, id)
			k.lines = slices.DeleteFunc(k.lines, func(l line) bool { return l.dir == id })
			again = true
		}
	}
}

func (k *book) make(dir bool) (int, api.Errno) {
	for id := range mostNodes {
		if !k.has(id) {
			k.items[id] = &item{dir: dir, opens: 1}
			return id, api.OK
		}
	}
	return 0, api.ENOSPC
}

func (k *book) get(id int) (api.Inode, bool) {
	if !k.has(id) {
		return api.Inode{}, false
	}
	size := len(k.items[id].bytes)
	if k.isDir(id) {
		size = len(k.list(id))
	}
	return api.Inode{ID: id, Links: k.links(id), Dir: k.isDir(id), Size: size}, true
}

func (k *book) open(id int) api.Errno {
	if !k.has(id) {
		return api.ErrNone
	}
	k.items[id].opens++
	return api.OK
}

func (k *book) close(id int) api.Errno {
	if !k.has(id) || k.items[id].opens == 0 {
		return api.ErrNone
	}
	k.items[id].opens--
	k.sweep()
	return api.OK
}

func (k *book) enter(dir int, name string, id int) api.Errno {
	if !k.isDir(dir) {
		return api.ENOTDIR
	}
	if e := path.Name(name); e != api.OK {
		return e
	}
	if !k.has(id) || id == 0 {
		return api.ErrNone
	}
	if k.at(dir, name) >= 0 {
		return api.EEXIST
	}
	if len(k.list(dir)) == mostEntries {
		return api.ENOSPC
	}
	k.lines = append(k.lines, line{dir, name, id})
	return api.OK
}

func (k *book) remove(dir int, name string) api.Errno {
	id, e := k.find(dir, name)
	if e != api.OK {
		return e
	}
	if len(k.list(id)) > 0 {
		return api.ENOTEMPTY
	}
	at := k.at(dir, name)
	k.lines = append(slices.Clone(k.lines[:at]), k.lines[at+1:]...)
	k.sweep()
	return api.OK
}

func (k *book) find(dir int, name string) (int, api.Errno) {
	if !k.isDir(dir) {
		return 0, api.ENOTDIR
	}
	at := k.at(dir, name)
	if at < 0 {
		return 0, api.ENOENT
	}
	return k.lines[at].id, api.OK
}

// free is how many frames the files leave over.
func (k *book) free() int {
	n := allFrames
	for _, x := range k.items {
		for size := len(x.bytes); size > 0; size -= frameBytes {
			n--
		}
	}
	return n
}

// both is a table, the store and the frames beneath it, and the same as a book.
type both struct {
	t     *testing.T
	f     *frames.Frames
	s     *store.Store
	x     *inode.Table
	k     *book
	names map[string]bool // all that were ever handed in
}

// fresh answers a new table over all frames that may be.
func fresh(t *testing.T) *both {
	t.Helper()
	f, e := frames.New(allFrames)
	if e != api.OK {
		t.Fatalf("frames.New(%d): %d", allFrames, e)
	}
	s := store.New(f)
	return &both{t, f, s, inode.New(s), newBook(), map[string]bool{"a": true, "": true}}
}

// want is told what a call answered and what the book did; and, if it is known at that place, what is written out there.
func (b *both) want(what string, id int, name string, got api.Errno, due api.Errno, written []api.Errno) {
	b.t.Helper()
	for _, e := range append(written, due) {
		if got != e {
			b.t.Fatalf("%s of %d, %q: %d, not %d", what, id, name, got, e)
		}
	}
}

func (b *both) make(dir bool, written ...api.Errno) int {
	b.t.Helper()
	id, e := b.x.Make(dir)
	due, wrong := b.k.make(dir)
	b.want("Make", due, "", e, wrong, written)
	if id != due {
		b.t.Fatalf("Make(%t): %d, not %d", dir, id, due)
	}
	return id
}

func (b *both) open(id int, written ...api.Errno) {
	b.t.Helper()
	b.want("Open", id, "", b.x.Open(id), b.k.open(id), written)
}

func (b *both) close(id int, written ...api.Errno) {
	b.t.Helper()
	b.want("Close", id, "", b.x.Close(id), b.k.close(id), written)
}

func (b *both) enter(dir int, name string, id int, written ...api.Errno) {
	b.t.Helper()
	b.names[strings.Clone(name)] = true
	b.want("Enter into", dir, name, b.x.Enter(dir, name, id), b.k.enter(dir, strings.Clone(name), id), written)
}

func (b *both) remove(dir int, name string, written ...api.Errno) {
	b.t.Helper()
	b.names[strings.Clone(name)] = true
	b.want("Remove from", dir, name, b.x.Remove(dir, name), b.k.remove(dir, name), written)
}

// write lets file id have these bytes, from its beginning on.
func (b *both) write(id int, data []byte) {
	b.t.Helper()
	if e := b.s.Write(id, 0, data); e != api.OK {
		b.t.Fatalf("store.Write(%d, 0, of %d): %d", id, len(data), e)
	}
	x := b.k.items[id]
	x.bytes = append(bytes.Clone(data), x.bytes[min(len(x.bytes), len(data)):]...)
}

// pattern answers n bytes, none of which is 0.
func pattern(n int, seed int) []byte {
	data := make([]byte, n)
	for i := range data {
		data[i] = byte(1 + (seed*37+i*5)%251)
	}
	return data
}

// told holds all that the table and the store tell of node id against the book.
func (b *both) told(what string, id int) {
	b.t.Helper()
	due, there := b.k.get(id)
	if got, ok := b.x.Get(id); got != due || ok != there {
		b.t.Fatalf("%s: Get(%d): %v %t, not %v %t", what, id, got, ok, due, there)
	}
	opens := 0
	if there {
		opens = b.k.items[id].opens
	}
	if got := b.x.Opens(id); got != opens {
		b.t.Fatalf("%s: Opens(%d): %d, not %d", what, id, got, opens)
	}
	b.toldBytes(what, id)
	b.toldEntries(what, id)
}

func (b *both) toldBytes(what string, id int) {
	b.t.Helper()
	var data []byte
	wrong := api.ErrNone
	if b.k.has(id) && !b.k.isDir(id) {
		data, wrong = b.k.items[id].bytes, api.OK
	}
	if got, e := b.s.Read(id, 0, 512); e != wrong || !bytes.Equal(got, data) {
		b.t.Fatalf("%s: the store's bytes of %d: %v %d, not %v %d", what, id, got, e, data, wrong)
	}
}

func (b *both) toldEntries(what string, id int) {
	b.t.Helper()
	list, e := b.x.List(id)
	switch {
	case !b.k.isDir(id):
		if len(list) != 0 || e != api.ENOTDIR {
			b.t.Fatalf("%s: List(%d): %v %d", what, id, list, e)
		}
	case e != api.OK || !slices.Equal(list, b.k.list(id)):
		b.t.Fatalf("%s: List(%d): %v %d, not %v", what, id, list, e, b.k.list(id))
	}
	for name := range b.names {
		due, wrong := b.k.find(id, name)
		if got, e := b.x.Find(id, name); got != due || e != wrong {
			b.t.Fatalf("%s: Find(%d, %q): %d %d, not %d %d", what, id, name, got, e, due, wrong)
		}
	}
}

// check holds all that is told against the book, of all numbers that may be and of some that may not.
func (b *both) check(what string) {
	b.t.Helper()
	for id := -2; id < mostNodes+2; id++ {
		b.told(what, id)
	}
	if got := b.x.Len(); got != len(b.k.items) {
		b.t.Fatalf("%s: Len: %d, not %d", what, got, len(b.k.items))
	}
	if got := b.f.Free(); got != b.k.free() {
		b.t.Fatalf("%s: %d frames are free, not %d", what, got, b.k.free())
	}
}

// checkEmptied closes and removes all that may be, and looks at each step. What names itself, by however many, stays.
func (b *both) checkEmptied(what string) {
	b.t.Helper()
	for id := range mostNodes {
		for b.k.has(id) && b.k.items[id].opens > 0 {
			b.close(id, api.OK)
			b.check(what)
		}
	}
	for again := true; again; {
		again = false
		for _, l := range slices.Clone(b.k.lines) {
			if b.k.at(l.dir, l.name) >= 0 && len(b.k.list(l.id)) == 0 {
				b.remove(l.dir, l.name, api.OK)
				b.check(what)
				again = true
			}
		}
	}
}

// strangers are numbers far off: just beside the bounds, the least and the greatest, and those that would be well if their higher bits were lost.
func strangers() []int {
	return []int{
		math.MinInt, math.MinInt + 1, math.MinInt + 16, math.MinInt32, -1 << 32, -257, -256, -65, -64, -17, -16, -15, -2, -1,
		16, 17, 18, 31, 32, 33, 64, 65, 128, 256, 257, 1 << 16, 1<<16 + 1, 1 << 32, 1<<32 + 1, 1<<32 + 15, 1 << 62,
		math.MaxInt32, math.MaxInt - 15, math.MaxInt - 1, math.MaxInt,
	}
}

// wrongNames are no names, each with what path.Name says of it.
func wrongNames() map[string]api.Errno {
	return map[string]api.Errno{
		"": api.ENOENT, ".": api.EINVAL, "..": api.EINVAL, "/": api.EINVAL, "a/b": api.EINVAL, "/a": api.EINVAL, "a/": api.EINVAL,
		"\x00": api.EINVAL, "a\x00": api.EINVAL, "\x00a": api.EINVAL, "1234567/": api.EINVAL, "123456789": api.ENAMETOOLONG,
		"12345678/": api.ENAMETOOLONG, strings.Repeat("a", 5000): api.ENAMETOOLONG,
	}
}

// oddNames are names that may be, in no order.
func oddNames() []string {
	return []string{"b", "...", "a", "aa", "B", "\xff\xfe", ".a", "é", "\x01", " ", "ab", "-", "12345678", "1234567", "\xc3", "a.", "\x7f\x80", "~"}
}

// P21.1, P21.2: the document's example.
func TestExample(t *testing.T) {
	f, _ := frames.New(1)
	x := inode.New(store.New(f))
	if id, e := x.Make(false); id != 1 || e != api.OK {
		t.Errorf("Make(false): %d %d", id, e)
	}
	if e := x.Enter(0, "a", 1); e != api.OK {
		t.Errorf("Enter(0, a, 1): %d", e)
	}
	if e := x.Close(1); e != api.OK {
		t.Errorf("Close(1): %d", e)
	}
	if id, e := x.Find(0, "a"); id != 1 || e != api.OK {
		t.Errorf("Find(0, a): %d %d", id, e)
	}
	if e := x.Remove(0, "a"); e != api.OK {
		t.Errorf("Remove(0, a): %d", e)
	}
	if n, ok := x.Get(1); n != (api.Inode{}) || ok {
		t.Errorf("Get(1): %v %t", n, ok)
	}
}

// P21.1: a new table has the root alone, a directory without links, opens and entries, and no bytes in the store.
func TestNew(t *testing.T) {
	b := fresh(t)
	if b.x == nil {
		t.Fatal("New: nil")
	}
	if n, ok := b.x.Get(0); n != (api.Inode{Dir: true}) || !ok || b.x.Opens(0) != 0 || b.x.Len() != 1 {
		t.Errorf("the root: %v %t", n, ok)
	}
	if list, e := b.x.List(0); len(list) != 0 || e != api.OK {
		t.Errorf("List(0): %v %d", list, e)
	}
	if _, e := b.s.Size(0); e != api.ErrNone {
		t.Errorf("the root's bytes: %d", e)
	}
	b.check("new")
	for _, id := range strangers() {
		b.told("new", id)
	}
}

// P21.1: Make answers the least free number, till there are as many nodes as may be; each is empty, without links, open once.
func TestMake(t *testing.T) {
	for _, kinds := range []int{0, 1<<mostNodes - 1, 0x5555, 0xaaaa, 0x0ff0} {
		b := fresh(t)
		for id := 1; id < mostNodes; id++ {
			dir := kinds>>id&1 == 1
			if got := b.make(dir, api.OK); got != id {
				t.Fatalf("Make(%t): %d, not %d", dir, got, id)
			}
			if n, ok := b.x.Get(id); n != (api.Inode{ID: id, Dir: dir}) || !ok || b.x.Opens(id) != 1 || b.x.Len() != id+1 {
				t.Fatalf("Make(%t): %v %t, open %d times", dir, n, ok, b.x.Opens(id))
			}
			b.check("made")
		}
		for range 3 {
			for _, dir := range []bool{false, true} {
				if id := b.make(dir, api.ENOSPC); id != 0 {
					t.Fatalf("Make(%t) of one too many: %d", dir, id)
				}
				b.check("full")
			}
		}
		b.checkEmptied("made")
	}
}

// P21.1: a number that is free again is answered again, the least of those first, and nothing of what had it is left.
func TestMakeAgain(t *testing.T) {
	for _, order := range [][]int{{3}, {1}, {15}, {3, 7}, {7, 3}, {15, 1, 8}, {2, 1}, {14, 15}, {5, 4, 3, 2, 1}} {
		for _, first := range []bool{false, true} {
			for _, then := range []bool{false, true} {
				b := fresh(t)
				for id := 1; id < mostNodes; id++ {
					b.make(first, api.OK)
					if !first {
						b.write(id, pattern(70, id))
					}
				}
				for _, id := range order {
					b.close(id, api.OK)
					b.check("free again")
				}
				for _, id := range slices.Sorted(slices.Values(order)) {
					if got := b.make(then, api.OK); got != id {
						t.Fatalf("Make: %d, not %d", got, id)
					}
					b.check("made again")
				}
				b.make(then, api.ENOSPC)
				b.checkEmptied("made again")
			}
		}
	}
}

// P21.1: a directory that had entries is made again without them, and one that is a file then has none.
func TestMakeBehindDirectory(t *testing.T) {
	for _, then := range []bool{false, true} {
		b := fresh(t)
		d, f := b.make(true), b.make(false)
		b.enter(d, "a", f, api.OK)
		b.enter(d, "b", f, api.OK)
		b.open(d, api.OK)
		b.close(d, api.OK)
		b.close(d, api.OK)
		if got := b.make(then, api.OK); got != d {
			t.Fatalf("Make: %d, not %d", got, d)
		}
		b.check("made again")
		b.close(d, api.OK)
		b.check("closed again")
	}
}

// P21.1: each number that no node has is none to Get, Opens, Open, Close, and nothing changes.
func TestNoNode(t *testing.T) {
	b := fresh(t)
	b.make(false)
	b.make(true)
	for id := 3; id < mostNodes; id++ {
		b.open(id, api.ErrNone)
		b.close(id, api.ErrNone)
	}
	for _, id := range strangers() {
		b.open(id, api.ErrNone)
		b.close(id, api.ErrNone)
		b.told("no node", id)
	}
	b.check("no node")
}

// P21.1: a node may be opened any number of times, and is closed as often; the root too, which stays, and isn't open at first.
func TestOpenClose(t *testing.T) {
	for _, id := range []int{0, 1, 2, 3, 4} {
		b := fresh(t)
		b.make(false)
		b.make(true)
		b.enter(0, "f", b.make(false), api.OK)
		b.enter(0, "d", b.make(true), api.OK)
		if id == 0 {
			b.close(id, api.ErrNone)
			b.open(id, api.OK)
		}
		for range 100 {
			b.open(id, api.OK)
			b.check("opened")
		}
		for b.k.has(id) && b.k.items[id].opens > 0 {
			b.close(id, api.OK)
			b.check("closed")
		}
		for range 3 {
			b.close(id, api.ErrNone)
			b.check("closed once too often")
		}
		stays := id == 0 || id > 2
		if b.k.has(id) != stays {
			t.Fatalf("%d: there is the node: %t", id, b.k.has(id))
		}
		if stays {
			b.open(id, api.OK)
			b.close(id, api.OK)
		}
		b.check("behind it")
	}
}

// P21.1: a file is gone, with its bytes, when it has neither links nor opens, and not before.
func TestFileGone(t *testing.T) {
	names := []string{"a", "b", "c"}
	for links := range 4 {
		for opens := 1; opens < 4; opens++ {
			for _, openLast := range []bool{false, true} {
				b := fresh(t)
				b.make(false)
				f := b.make(false)
				b.write(f, pattern(130, 3))
				for _, name := range names[:links] {
					b.enter(0, name, f, api.OK)
				}
				for range opens - 1 {
					b.open(f, api.OK)
				}
				closeAll := func() {
					for range opens {
						b.close(f, api.OK)
						b.check("closed")
					}
				}
				if !openLast {
					closeAll()
				}
				for _, name := range names[:links] {
					b.remove(0, name, api.OK)
					b.check("removed")
				}
				if openLast {
					closeAll()
				}
				if b.k.has(f) || b.x.Len() != 2 || b.f.Free() != allFrames {
					t.Fatalf("%d links, %d opens: it is there yet", links, opens)
				}
				b.close(f, api.ErrNone)
				b.open(f, api.ErrNone)
				b.check("gone")
			}
		}
	}
}

// P21.1: what a file's bytes are, and how many, is the store's to tell, and Get tells it.
func TestSizeOfFile(t *testing.T) {
	b := fresh(t)
	f := b.make(false)
	for _, n := range []int{0, 1, 63, 64, 65, 100, 511, 512} {
		b.write(f, pattern(n, n))
		if x, ok := b.x.Get(f); x != (api.Inode{ID: f, Size: n}) || !ok {
			t.Fatalf("Get behind %d bytes: %v %t", n, x, ok)
		}
		b.check("written")
	}
	b.s.Cut(f)
	b.k.items[f].bytes = nil
	b.check("cut")
}

// P21.1: a directory without links and opens is gone though it has entries, and what they name has a link less.
func TestDirectoryGone(t *testing.T) {
	b := fresh(t)
	d, kept, once, twice, empty := b.make(true), b.make(false), b.make(false), b.make(false), b.make(true)
	b.write(once, pattern(10, 1))
	b.write(twice, pattern(20, 2))
	b.write(kept, pattern(30, 3))
	b.enter(0, "kept", kept, api.OK)
	b.enter(d, "kept", kept, api.OK)
	b.enter(d, "once", once, api.OK)
	b.enter(d, "t1", twice, api.OK)
	b.enter(d, "t2", twice, api.OK)
	b.enter(d, "empty", empty, api.OK)
	for _, id := range []int{kept, once, twice, empty} {
		b.close(id, api.OK)
	}
	b.check("all but the directory are closed")
	b.close(d, api.OK)
	b.check("the directory is gone")
	if b.x.Len() != 2 {
		t.Errorf("%d nodes are left, not the root and one", b.x.Len())
	}
	if n, _ := b.x.Get(kept); n != (api.Inode{ID: kept, Links: 1, Size: 30}) {
		t.Errorf("what the root names yet: %v", n)
	}
}

// P21.1: what is open, or named elsewhere, outlives a directory that named it.
func TestDirectoryGoneOthersStay(t *testing.T) {
	for _, dir := range []bool{false, true} {
		for _, open := range []bool{false, true} {
			for _, elsewhere := range []bool{false, true} {
				b := fresh(t)
				d, x := b.make(true), b.make(dir)
				if !dir {
					b.write(x, pattern(9, 9))
				}
				b.enter(d, "x", x, api.OK)
				if elsewhere {
					b.enter(0, "y", x, api.OK)
				}
				if !open {
					b.close(x, api.OK)
				}
				b.close(d, api.OK)
				b.check("the directory is gone")
				if b.k.has(x) != (open || elsewhere) {
					t.Fatalf("dir %t, open %t, elsewhere %t: there it is: %t", dir, open, elsewhere, b.k.has(x))
				}
				b.checkEmptied("the directory is gone")
				if b.x.Len() != 1 {
					t.Fatalf("%d nodes are left", b.x.Len())
				}
			}
		}
	}
}

// P21.1: and so on downwards: of a chain of directories all are gone from the one on that nothing keeps, down to one that is open.
func TestChainGone(t *testing.T) {
	for held := range mostNodes {
		for _, forward := range []bool{false, true} {
			b := fresh(t)
			chain := []int{}
			for id := 1; id < mostNodes; id++ {
				chain = append(chain, b.make(id < mostNodes-1, api.OK))
			}
			if !forward {
				slices.Reverse(chain[:len(chain)-1])
			}
			last := len(chain) - 1
			b.write(chain[last], pattern(500, 5))
			for i := range last {
				b.enter(chain[i], "down", chain[i+1], api.OK)
			}
			for i := last; i > 0; i-- {
				if i != held {
					b.close(chain[i], api.OK)
				}
			}
			b.check("a chain")
			b.close(chain[0], api.OK)
			b.check("its first one is closed")
			if held > 0 && held <= last {
				if left := 1 + len(chain) - held; b.x.Len() != left {
					t.Fatalf("%d nodes are left, not %d, while the one at %d is open", b.x.Len(), left, held)
				}
				b.close(chain[held], api.OK)
				b.check("the one that was open is closed")
			}
			if b.x.Len() != 1 {
				t.Fatalf("%d nodes are left of a chain", b.x.Len())
			}
		}
	}
}

// P21.1: a tree is gone whole, several names of one node and names from one branch into another with it.
func TestTreeGone(t *testing.T) {
	b := fresh(t)
	top := b.make(true)
	left, right, low := b.make(true), b.make(true), b.make(true)
	f, g := b.make(false), b.make(false)
	b.enter(top, "l", left, api.OK)
	b.enter(top, "r", right, api.OK)
	b.enter(left, "low", low, api.OK)
	b.enter(right, "low", low, api.OK)
	b.enter(right, "also", low, api.OK)
	b.enter(low, "f", f, api.OK)
	b.enter(top, "f", f, api.OK)
	b.enter(left, "g", g, api.OK)
	b.enter(low, "g", g, api.OK)
	b.write(f, pattern(100, 1))
	b.write(g, pattern(200, 2))
	for _, id := range []int{g, low, left, f, right} {
		b.close(id, api.OK)
		b.check("closed within a tree")
	}
	b.close(top, api.OK)
	b.check("a tree is gone")
	if b.x.Len() != 1 || b.f.Free() != allFrames {
		t.Errorf("%d nodes and %d free frames are left", b.x.Len(), b.f.Free())
	}
}

// P21.1, P21.2: a directory that names itself, or two that name one another, keep themselves; none of their entries can be removed.
func TestNamesItself(t *testing.T) {
	b := fresh(t)
	d := b.make(true)
	b.enter(d, "me", d, api.OK)
	b.enter(d, "me2", d, api.OK)
	b.check("in itself")
	b.close(d, api.OK)
	b.check("in itself, closed")
	b.remove(d, "me", api.ENOTEMPTY)
	if n, ok := b.x.Get(d); n != (api.Inode{ID: d, Links: 2, Dir: true, Size: 2}) || !ok {
		t.Errorf("in itself: %v %t", n, ok)
	}
	one, two := b.make(true), b.make(true)
	b.enter(one, "two", two, api.OK)
	b.enter(two, "one", one, api.OK)
	b.close(one, api.OK)
	b.close(two, api.OK)
	b.check("in one another")
	b.remove(one, "two", api.ENOTEMPTY)
	b.remove(two, "one", api.ENOTEMPTY)
	top := b.make(true)
	b.enter(top, "one", one, api.OK)
	b.enter(0, "two", two, api.OK)
	b.close(top, api.OK)
	b.check("what named one of them is gone")
	b.remove(0, "two", api.ENOTEMPTY)
	b.check("in one another")
	if b.x.Len() != 4 {
		t.Errorf("%d nodes, not 4", b.x.Len())
	}
}

// P21.1, P21.2: a directory that is unlinked but open may have entries; they go when it is closed. The root's entries stay, however often it is closed.
func TestUnlinkedAndOpen(t *testing.T) {
	b := fresh(t)
	d := b.make(true)
	b.enter(0, "d", d, api.OK)
	b.remove(0, "d", api.OK)
	f := b.make(false)
	b.enter(d, "f", f, api.OK)
	b.close(f, api.OK)
	b.check("an entry of a directory that is unlinked")
	b.close(d, api.OK)
	b.check("it is closed")
	f = b.make(false)
	b.enter(0, "f", f, api.OK)
	b.close(f, api.OK)
	for range 3 {
		b.open(0, api.OK)
		b.close(0, api.OK)
		b.close(0, api.ErrNone)
		b.check("the root was open")
	}
	if b.x.Len() != 2 {
		t.Errorf("%d nodes, not the root and a file", b.x.Len())
	}
}

// P21.2: of what is no directory Enter, Remove, Find and List are ENOTDIR.
func TestNoDirectory(t *testing.T) {
	b := fresh(t)
	f, d := b.make(false), b.make(true)
	b.enter(0, "f", f, api.OK)
	for _, dir := range append(strangers(), f, 3, 9, 15) {
		for _, name := range []string{"f", "x", "", "a/b", "123456789"} {
			for _, id := range []int{f, d, 0, -1, 9, dir} {
				b.enter(dir, name, id, api.ENOTDIR)
			}
			b.remove(dir, name, api.ENOTDIR)
			if id, e := b.x.Find(dir, name); id != 0 || e != api.ENOTDIR {
				t.Errorf("Find(%d, %q): %d %d", dir, name, id, e)
			}
		}
		if list, e := b.x.List(dir); len(list) != 0 || e != api.ENOTDIR {
			t.Errorf("List(%d): %v %d", dir, list, e)
		}
	}
	b.check("no directory")
	b.close(d, api.OK)
	b.enter(d, "x", f, api.ENOTDIR)
	b.remove(d, "x", api.ENOTDIR)
	b.check("a directory that is gone")
}

// P21.2: names that may not be are refused as path.Name says; nobody has them, so that Find and Remove don't find them.
func TestWrongNames(t *testing.T) {
	b := fresh(t)
	f, d := b.make(false), b.make(true)
	for _, dir := range []int{0, d} {
		for name, wrong := range wrongNames() {
			b.enter(dir, name, f, wrong)
			b.remove(dir, name, api.ENOENT)
			if id, e := b.x.Find(dir, name); id != 0 || e != api.ENOENT {
				t.Errorf("Find(%d, %q): %d %d", dir, name, id, e)
			}
			b.check("a wrong name")
		}
		for _, name := range []string{"...", "12345678", ".a", "\xff", "é", " "} {
			b.enter(dir, name, f, api.OK)
			b.check("a name")
			b.remove(dir, name, api.OK)
		}
	}
	for c := range 256 {
		for _, name := range []string{string([]byte{byte(c)}), string([]byte{'x', byte(c)}), string([]byte{byte(c), 'x'})} {
			b.enter(0, name, f)
			b.remove(0, name)
		}
	}
	b.check("each byte")
}

// P21.2: what an entry names must be there, and is not the root.
func TestEnterNoNode(t *testing.T) {
	b := fresh(t)
	d := b.make(true)
	for _, dir := range []int{0, d} {
		for _, id := range append(strangers(), 0, 2, 3, 15) {
			b.enter(dir, "x", id, api.ErrNone)
		}
	}
	b.check("no node")
	f := b.make(false)
	b.enter(0, "x", f, api.OK)
	b.remove(0, "x", api.OK)
	b.close(f, api.OK)
	b.enter(0, "x", f, api.ErrNone)
	b.check("a node that is gone")
}

// P21.2: a name is there once in a directory, whatever it names; in another directory it is another one.
func TestEnterTwice(t *testing.T) {
	b := fresh(t)
	f, g, d := b.make(false), b.make(false), b.make(true)
	b.enter(0, "x", f, api.OK)
	for _, id := range []int{f, g, d} {
		b.enter(0, "x", id, api.EEXIST)
		b.check("there already")
	}
	for _, name := range []string{"X", "x ", "xx", "x.", "\x01x"} {
		b.enter(0, name, g, api.OK)
		b.enter(0, name, f, api.EEXIST)
		b.check("another name")
	}
	b.enter(d, "x", g, api.OK)
	b.enter(d, "x", f, api.EEXIST)
	b.check("another directory")
	b.remove(0, "x", api.OK)
	b.enter(0, "x", g, api.OK)
	b.check("another node")
	b.checkEmptied("there already")
}

// P21.2: a directory has so many entries at most; with one less there is room for one again.
func TestEntriesFull(t *testing.T) {
	for _, ofRoot := range []bool{false, true} {
		b := fresh(t)
		d, f := b.make(true), b.make(false)
		if ofRoot {
			d = 0
		}
		names := oddNames()
		for i, name := range names {
			due := api.OK
			if i >= mostEntries {
				due = api.ENOSPC
			}
			b.enter(d, name, f, due)
			b.check("filled")
		}
		for _, name := range names[:mostEntries] {
			b.enter(d, name, f, api.EEXIST)
		}
		for i := range mostEntries {
			b.remove(d, names[i], api.OK)
			b.enter(d, names[mostEntries+i], f, api.OK)
			b.enter(d, "more", f, api.ENOSPC)
			b.check("one for another")
		}
		b.enter(1-d, "else", f)
		b.checkEmptied("filled")
	}
}

// P21.2: one node has many names, in several directories, and a link for each.
func TestManyNames(t *testing.T) {
	for _, dir := range []bool{false, true} {
		b := fresh(t)
		x := b.make(dir)
		others := []int{0, b.make(true), b.make(true), b.make(true)}
		links := 0
		for _, d := range others {
			for _, name := range oddNames()[:mostEntries] {
				b.enter(d, name, x, api.OK)
				links++
				if n, _ := b.x.Get(x); n.Links != links {
					t.Fatalf("%d links, not %d", n.Links, links)
				}
			}
		}
		b.close(x, api.OK)
		b.check("many names")
		for _, d := range others {
			for _, name := range oddNames()[:mostEntries] {
				b.remove(d, name, api.OK)
				links--
				if n, ok := b.x.Get(x); n.Links != links || ok != (links > 0) {
					t.Fatalf("%d links, not %d", n.Links, links)
				}
			}
		}
		b.check("no name is left")
	}
}

// P21.2: a directory with entries can't be removed, by none of its names, open or not; one without can.
func TestRemoveDirectory(t *testing.T) {
	for _, open := range []bool{false, true} {
		b := fresh(t)
		d, f := b.make(true), b.make(false)
		b.enter(0, "d", d, api.OK)
		b.enter(0, "e", d, api.OK)
		b.enter(d, "f", f, api.OK)
		b.enter(d, "g", f, api.OK)
		if !open {
			b.close(d, api.OK)
		}
		for _, name := range []string{"d", "e"} {
			b.remove(0, name, api.ENOTEMPTY)
			b.check("with entries")
		}
		b.remove(d, "f", api.OK)
		b.remove(0, "d", api.ENOTEMPTY)
		b.remove(d, "g", api.OK)
		b.check("without entries")
		b.remove(0, "d", api.OK)
		b.check("one name less")
		b.enter(d, "h", f, api.OK)
		b.remove(0, "e", api.ENOTEMPTY)
		b.remove(d, "h", api.OK)
		b.remove(0, "e", api.OK)
		b.check("no name is left")
		if b.k.has(d) != open {
			t.Errorf("open %t: there it is: %t", open, b.k.has(d))
		}
	}
}

// P21.2: Remove takes just the one entry, wherever it stands among the others.
func TestRemoveEach(t *testing.T) {
	names := oddNames()[:mostEntries]
	for at := range names {
		b := fresh(t)
		for _, name := range names {
			id := b.make(false)
			b.enter(0, name, id, api.OK)
			b.close(id, api.OK)
		}
		b.remove(0, names[at], api.OK)
		b.check("one removed")
		b.remove(0, names[at], api.ENOENT)
		b.check("removed once more")
		b.enter(0, names[at], 1+(at+1)%mostEntries, api.OK)
		b.check("another one of that name")
	}
}

// P21.2: entries are told by their names, as bytes, in whatever order they came and went.
func TestOrder(t *testing.T) {
	names := []string{"a", "aa", "b", "B", "\xff", "\x01"}
	want := []string{"\x01", "B", "a", "aa", "b", "\xff"}
	var orders func(done []string, rest []string)
	orders = func(done []string, rest []string) {
		if len(rest) > 0 {
			for i := range rest {
				orders(append(slices.Clone(done), rest[i]), slices.Delete(slices.Clone(rest), i, i+1))
			}
			return
		}
		b := fresh(t)
		d, f := b.make(true), b.make(false)
		for i, name := range done {
			b.enter(d, name, 1+i%2, api.OK)
		}
		list, e := b.x.List(d)
		for i, name := range want {
			if e != api.OK || len(list) != len(want) || list[i] != (api.Entry{Name: name, ID: 1 + slices.Index(done, name)%2}) {
				t.Fatalf("entered as %q: %v %d", done, list, e)
			}
		}
		b.remove(d, done[2])
		b.enter(0, "f", f, api.OK)
		b.toldEntries("one less", d)
	}
	orders(nil, names)
	b := fresh(t)
	f := b.make(false)
	for _, name := range oddNames()[:mostEntries] {
		b.enter(0, name, f, api.OK)
	}
	for _, name := range oddNames()[mostEntries:] {
		list, _ := b.x.List(0)
		b.remove(0, list[len(name)%mostEntries].Name, api.OK)
		b.enter(0, name, f, api.OK)
		b.check("odd names")
	}
}

// R6: of several errors the one that the chapter names first is told.
func TestFirstError(t *testing.T) {
	b := fresh(t)
	f, d := b.make(false), b.make(true)
	for _, name := range oddNames()[:mostEntries] {
		b.enter(d, name, f, api.OK)
	}
	for _, c := range []struct {
		what string
		dir  int
		name string
		id   int
		want api.Errno
	}{
		{"no directory, no name, no node", f, "", 9, api.ENOTDIR},
		{"no node as directory, too long, the root", 9, "123456789", 0, api.ENOTDIR},
		{"no name, no node, full", d, "", 9, api.ENOENT},
		{"too long, the root, full", d, "123456789", 0, api.ENAMETOOLONG},
		{"a slash, no node, full", d, "a/b", -1, api.EINVAL},
		{"no node, there already, full", d, "a", 9, api.ErrNone},
		{"the root, there already, full", d, "a", 0, api.ErrNone},
		{"no node, full", d, "new", 9, api.ErrNone},
		{"the root, full", d, "new", 0, api.ErrNone},
		{"there already, full", d, "a", f, api.EEXIST},
		{"full", d, "new", f, api.ENOSPC},
	} {
		if got := b.x.Enter(c.dir, c.name, c.id); got != c.want {
			t.Errorf("Enter, %s: %d, not %d", c.what, got, c.want)
		}
		b.check(c.what)
	}
	for name := range wrongNames() {
		if e := b.x.Remove(f, name); e != api.ENOTDIR {
			t.Errorf("Remove(%d, %q): %d", f, name, e)
		}
		if _, e := b.x.Find(f, name); e != api.ENOTDIR {
			t.Errorf("Find(%d, %q): %d", f, name, e)
		}
	}
	b.check("first errors")
}

// R3: of no table each call says so, whatever it is asked.
func TestNil(t *testing.T) {
	var x *inode.Table
	for _, dir := range []bool{false, true} {
		if id, e := x.Make(dir); id != 0 || e != api.ErrNil {
			t.Errorf("Make(%t): %d %d", dir, id, e)
		}
	}
	for _, id := range append(strangers(), 0, 1, 15) {
		if n, ok := x.Get(id); n != (api.Inode{}) || ok {
			t.Errorf("Get(%d): %v %t", id, n, ok)
		}
		if n := x.Opens(id); n != 0 {
			t.Errorf("Opens(%d): %d", id, n)
		}
		if e := x.Open(id); e != api.ErrNil {
			t.Errorf("Open(%d): %d", id, e)
		}
		if e := x.Close(id); e != api.ErrNil {
			t.Errorf("Close(%d): %d", id, e)
		}
		if list, e := x.List(id); len(list) != 0 || e != api.ErrNil {
			t.Errorf("List(%d): %v %d", id, list, e)
		}
		for _, name := range []string{"a", "", "a/b", "123456789"} {
			if e := x.Enter(id, name, 1); e != api.ErrNil {
				t.Errorf("Enter(%d, %q, 1): %d", id, name, e)
			}
			if e := x.Enter(0, name, id); e != api.ErrNil {
				t.Errorf("Enter(0, %q, %d): %d", name, id, e)
			}
			if e := x.Remove(id, name); e != api.ErrNil {
				t.Errorf("Remove(%d, %q): %d", id, name, e)
			}
			if n, e := x.Find(id, name); n != 0 || e != api.ErrNil {
				t.Errorf("Find(%d, %q): %d %d", id, name, n, e)
			}
		}
	}
	if n := x.Len(); n != 0 {
		t.Errorf("Len: %d", n)
	}
}

// over answers the text that stands in these bytes, not a copy of it.
func over(data []byte) string { return unsafe.String(unsafe.SliceData(data), len(data)) }

// share answers whether two texts have memory together.
func share(s string, u string) bool {
	a, b := uintptr(unsafe.Pointer(unsafe.StringData(s))), uintptr(unsafe.Pointer(unsafe.StringData(u)))
	return len(s) > 0 && len(u) > 0 && a < b+uintptr(len(u)) && b < a+uintptr(len(s))
}

// R4: a name that was handed in is not kept: its bytes may change.
func TestNamesNotKept(t *testing.T) {
	b := fresh(t)
	f := b.make(false)
	for _, name := range oddNames()[:mostEntries] {
		data := []byte(name)
		b.enter(0, over(data), f, api.OK)
		if string(data) != name {
			t.Fatalf("the name %q was changed: %q", name, data)
		}
		for i := range data {
			data[i] = '#'
		}
		b.check("a name's bytes changed")
	}
}

// R4: a list is new memory, its names and its spare room too: the table does not change with it, nor another list.
func TestListIsNewMemory(t *testing.T) {
	b := fresh(t)
	f := b.make(false)
	for i := range mostEntries + 1 {
		due := b.k.list(0)
		first, _ := b.x.List(0)
		second, _ := b.x.List(0)
		for j := range first {
			for k := range second {
				if share(first[j].Name, second[k].Name) {
					t.Fatalf("two lists share the name %q", first[j].Name)
				}
			}
		}
		first = append(first, api.Entry{Name: "more", ID: 3})
		b.check("a list grew")
		first = first[:cap(first)]
		for j := range first {
			first[j] = api.Entry{Name: "zz", ID: 9}
		}
		b.check("a list changed")
		if !slices.Equal(second, due) {
			t.Fatalf("%v became %v with another list", due, second)
		}
		if i < mostEntries {
			b.enter(0, oddNames()[i], f, api.OK)
		}
		if !slices.Equal(second, due) {
			t.Fatalf("%v became %v with the directory", due, second)
		}
	}
	third, _ := b.x.List(0)
	due := slices.Clone(third)
	for i := range mostEntries {
		b.remove(0, oddNames()[i], api.OK)
		third = third[:cap(third)]
		if !slices.Equal(third[:len(due)], due) {
			t.Fatalf("%v became %v with the directory", due, third)
		}
	}
}

// R4: a name that was told and is entered again is a name of its own there.
func TestListIntoEnter(t *testing.T) {
	b := fresh(t)
	f, d := b.make(false), b.make(true)
	data := []byte("name")
	b.enter(0, over(data), f, api.OK)
	list, _ := b.x.List(0)
	b.enter(d, list[0].Name, f, api.OK)
	again, _ := b.x.List(d)
	if share(list[0].Name, again[0].Name) || share(list[0].Name, over(data)) {
		t.Error("a name that was told shares memory")
	}
	b.check("told and entered")
}

// P21.1, P21.2: what only tells changes nothing, and tells the same again.
func TestTellingChangesNothing(t *testing.T) {
	b := fresh(t)
	d, f := b.make(true), b.make(false)
	b.write(f, pattern(70, 1))
	b.enter(0, "d", d, api.OK)
	b.enter(d, "f", f, api.OK)
	for range 3 {
		for _, id := range strangers() {
			b.told("asked", id)
		}
		b.check("asked")
	}
}

// Each answer of New stands alone.
func TestApart(t *testing.T) {
	a, b := fresh(t), fresh(t)
	a.make(true)
	a.enter(0, "x", 1, api.OK)
	b.check("the other one")
	b.make(false)
	b.write(1, pattern(9, 1))
	b.enter(0, "y", 1, api.OK)
	b.open(0, api.OK)
	a.check("the one")
	b.check("the other one")
	a.checkEmptied("the one")
	b.check("the other one")
}

// R5: the same calls give frames back in the same order, however often they are played.
func TestSameAgain(t *testing.T) {
	play := func() []int {
		b := fresh(t)
		d := b.make(true)
		for i, name := range oddNames()[:mostEntries] {
			f := b.make(false)
			b.write(f, pattern(64*(1+i%3), i))
			b.enter(d, name, f, api.OK)
			b.close(f, api.OK)
		}
		b.close(d, api.OK)
		var order []int
		for i, e := b.f.Take(); e == api.OK; i, e = b.f.Take() {
			order = append(order, i)
		}
		return order
	}
	first := play()
	for range 50 {
		if again := play(); !slices.Equal(first, again) {
			t.Fatalf("frames come as %v, and then as %v", first, again)
		}
	}
}

// calls are such as change a table, on so few numbers and names that they meet.
func calls() []func(b *both) {
	return []func(b *both){
		func(b *both) { b.make(true) },
		func(b *both) { b.make(false) },
		func(b *both) { b.open(1) },
		func(b *both) { b.close(1) },
		func(b *both) { b.close(2) },
		func(b *both) { b.enter(0, "a", 1) },
		func(b *both) { b.enter(0, "b", 2) },
		func(b *both) { b.enter(1, "a", 2) },
		func(b *both) { b.enter(1, "b", 1) },
		func(b *both) { b.enter(2, "a", 1) },
		func(b *both) { b.remove(0, "a") },
		func(b *both) { b.remove(0, "b") },
		func(b *both) { b.remove(1, "a") },
	}
}

// P21.1, P21.2: all plays of four calls behind each few that make nodes.
func TestAllShortPlays(t *testing.T) {
	const length = 4
	list := calls()
	plays := 1
	for range length {
		plays *= len(list)
	}
	for play := range plays {
		for start := range 4 {
			b := fresh(t)
			b.make(start&1 == 0)
			b.make(start&2 == 0)
			for rest, i := play, 0; i < length; i++ {
				list[rest%len(list)](b)
				rest /= len(list)
			}
			for id := range 4 {
				b.told("a short play", id)
			}
			if b.x.Len() != len(b.k.items) {
				t.Fatalf("Len: %d, not %d", b.x.Len(), len(b.k.items))
			}
		}
	}
}

// P21.1, P21.2: long plays by a rule of their own.
func TestLongPlays(t *testing.T) {
	for seed := range 40 {
		draw := rand.New(rand.NewSource(int64(seed))).Intn
		b := fresh(t)
		names := append(oddNames()[:3+draw(10)], "", "a/b", "123456789")
		span := 3 + draw(15)
		for step := range 800 {
			id, dir, name := draw(span+2)-1, draw(span+2)-1, names[draw(len(names))]
			switch draw(10) {
			case 0:
				b.make(draw(2) == 0)
			case 1:
				b.open(id)
			case 2, 3, 4:
				b.close(id)
			case 5, 6:
				b.enter(dir, name, id)
			case 7, 8:
				b.remove(dir, name)
			default:
				if b.k.has(id) && !b.k.isDir(id) {
					b.write(id, pattern(draw(200), step))
				}
			}
			if step%5 == 0 {
				b.check("a long play")
			}
		}
		b.checkEmptied("a long play")
	}
}

// Very many opens, entries and nodes, one after the other: what is gone leaves nothing behind.
func TestMany(t *testing.T) {
	const many = 100000
	b := fresh(t)
	d := b.make(true)
	for range many {
		f, e := b.x.Make(false)
		if e != api.OK || f != 2 || b.x.Enter(d, "f", f) != api.OK || b.x.Close(f) != api.OK || b.x.Open(d) != api.OK {
			t.Fatalf("one of many: %d %d", f, e)
		}
		if b.x.Remove(d, "f") != api.OK || b.x.Len() != 2 {
			t.Fatalf("one of many: %d nodes", b.x.Len())
		}
	}
	if got := b.x.Opens(d); got != many+1 {
		t.Errorf("open %d times", got)
	}
}
