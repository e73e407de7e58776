package vfs_test

import (
	"bytes"
	"fmt"
	"math"
	"math/rand"
	"slices"
	"strings"
	"sync"
	"testing"
	"unsafe"

	"coxswain/api"
	"coxswain/frames"
	"coxswain/path"
	"coxswain/vfs"
)

// From the document: how many nodes there may be, entries of a directory, names of a path, bytes of a frame, frames in all, and Open's flags.
const (
	mostNodes   = 16
	mostEntries = 8
	mostDepth   = 6
	frameBytes  = 64
	allFrames   = 64
	makeFlag    = 1
	freshFlag   = 2
	endFlag     = 4
)

// item is a node of the book.
type item struct {
	dir   bool
	opens int
	bytes []byte
}

// book keeps nodes by numbers, and each path that names one, whole: what is in a directory are the paths that are longer by a name.
type book struct {
	items map[int]*item
	paths map[string]int
}

func newBook() *book {
	return &book{items: map[int]*item{0: {dir: true}}, paths: map[string]int{"/": 0}}
}

// halves answers what is above s, and its last name.
func halves(s string) (string, string) {
	at := strings.LastIndexByte(s, '/')
	return s[:max(at, 1)], s[at+1:]
}

func (k *book) there(s string) bool {
	_, there := k.paths[s]
	return there
}

func (k *book) isDir(s string) bool { return k.there(s) && k.items[k.paths[s]].dir }

// walk holds each beginning of s that ends ahead of a slash against the paths that there are.
func (k *book) walk(s string) (int, api.Errno) {
	if _, e := path.Split(s); e != api.OK {
		return 0, e
	}
	for i := 1; i < len(s); i++ {
		if s[i] != '/' {
			continue
		}
		if !k.there(s[:i]) {
			return 0, api.ENOENT
		}
		if !k.isDir(s[:i]) {
			return 0, api.ENOTDIR
		}
	}
	if !k.there(s) {
		return 0, api.ENOENT
	}
	return k.paths[s], api.OK
}

// parent answers the path above s, if it names a node.
func (k *book) parent(s string) (string, api.Errno) {
	if _, e := path.Split(s); e != api.OK {
		return "", e
	}
	if s == "/" {
		return "", api.EINVAL
	}
	up, _ := halves(s)
	_, e := k.walk(up)
	return up, e
}

// list answers what is in the directory that s names, by names.
func (k *book) list(s string) []api.Entry {
	all := []api.Entry{}
	for p, id := range k.paths {
		if up, name := halves(p); p != "/" && up == s {
			all = append(all, api.Entry{Name: name, ID: id})
		}
	}
	slices.SortFunc(all, func(a api.Entry, b api.Entry) int { return bytes.Compare([]byte(a.Name), []byte(b.Name)) })
	return all
}

func (k *book) links(id int) int {
	n := 0
	for _, other := range k.paths {
		if other == id && id != 0 {
			n++
		}
	}
	return n
}

// sweep takes node id away if nothing keeps it. No directory with entries loses its name.
func (k *book) sweep(id int) {
	if x := k.items[id]; id != 0 && x != nil && x.opens == 0 && k.links(id) == 0 {
		delete(k.items, id)
	}
}

// enter lets s name node id, too.
func (k *book) enter(s string, id int) api.Errno {
	up, _ := halves(s)
	switch {
	case !k.isDir(up):
		return api.ENOTDIR
	case k.there(s):
		return api.EEXIST
	case len(k.list(up)) == mostEntries:
		return api.ENOSPC
	}
	k.paths[s] = id
	return api.OK
}

// make makes a node that s names.
func (k *book) make(s string, x item) (int, api.Errno) {
	for id := range mostNodes {
		if k.items[id] != nil {
			continue
		}
		if e := k.enter(s, id); e != api.OK {
			return 0, e
		}
		k.items[id] = &x
		return id, api.OK
	}
	return 0, api.ENOSPC
}

func (k *book) open(s string, flags int) (int, api.Errno) {
	if flags < 0 || flags > 7 {
		return 0, api.EINVAL
	}
	id, e := k.walk(s)
	if e == api.OK {
		if k.isDir(s) {
			return 0, api.EISDIR
		}
		if flags/freshFlag%2 == 1 {
			k.items[id].bytes = nil
		}
		k.items[id].opens++
		return id, api.OK
	}
	if e != api.ENOENT || flags%2 == 0 {
		return 0, e
	}
	if up, e := k.parent(s); e != api.OK {
		return 0, e
	} else if !k.isDir(up) {
		return 0, api.ENOTDIR
	}
	return k.make(s, item{opens: 1})
}

func (k *book) mkdir(s string) api.Errno {
	up, e := k.parent(s)
	switch {
	case e != api.OK:
		return e
	case k.there(s):
		return api.EEXIST
	case !k.isDir(up):
		return api.ENOTDIR
	}
	_, e = k.make(s, item{dir: true})
	return e
}

func (k *book) link(s string, t string) api.Errno {
	id, e := k.walk(s)
	if e != api.OK {
		return e
	}
	if k.isDir(s) {
		return api.EPERM
	}
	if _, e := k.parent(t); e != api.OK {
		return e
	}
	return k.enter(t, id)
}

// drop takes the name s of a directory or of a file away; wrong is told of the other kind.
func (k *book) drop(s string, dir bool, wrong api.Errno) api.Errno {
	up, e := k.parent(s)
	switch {
	case e != api.OK:
		return e
	case !k.isDir(up):
		return api.ENOTDIR
	case !k.there(s):
		return api.ENOENT
	case k.isDir(s) != dir:
		return wrong
	case len(k.list(s)) > 0:
		return api.ENOTEMPTY
	}
	id := k.paths[s]
	delete(k.paths, s)
	k.sweep(id)
	return api.OK
}

func (k *book) unlink(s string) api.Errno { return k.drop(s, false, api.EISDIR) }

func (k *book) rmdir(s string) api.Errno { return k.drop(s, true, api.ENOTDIR) }

// inode answers what node id is.
func (k *book) inode(id int) api.Inode {
	x := k.items[id]
	node := api.Inode{ID: id, Links: k.links(id), Dir: x.dir, Size: len(x.bytes)}
	for s, other := range k.paths {
		if x.dir && other == id {
			node.Size = len(k.list(s))
		}
	}
	return node
}

// blocks is how many frames the files have.
func (k *book) blocks() int {
	n := 0
	for _, x := range k.items {
		for size := len(x.bytes); size > 0; size -= frameBytes {
			n++
		}
	}
	return n
}

// both is a vfs, the frames beneath it, and the same as a book.
type both struct {
	t    *testing.T
	f    *frames.Frames
	v    *vfs.Vfs
	k    *book
	free int             // how many frames are free while no file has any
	seen map[string]bool // all paths that were ever handed in
}

// over answers a new vfs over n frames.
func over(t *testing.T, n int) *both {
	t.Helper()
	f, e := frames.New(n)
	if e != api.OK {
		t.Fatalf("frames.New(%d): %d", n, e)
	}
	return &both{t, f, vfs.New(f), newBook(), n, map[string]bool{"/": true, "": true}}
}

// fresh answers a new vfs over all frames that may be.
func fresh(t *testing.T) *both {
	t.Helper()
	return over(t, allFrames)
}

// state tells all that may be told of the frames, the bytes and the nodes, the order of the free frames too.
func (b *both) state() string {
	var out bytes.Buffer
	for id := range mostNodes {
		x, there := b.v.Nodes().Get(id)
		list, _ := b.v.Nodes().List(id)
		data, e := b.v.Store().Read(id, 0, 512)
		fmt.Fprintln(&out, x, there, b.v.Nodes().Opens(id), list, string(data), e, b.v.Store().Blocks(id))
	}
	for i := 0; ; i++ {
		data, e := b.f.Read(i, 0, frameBytes)
		if e == api.ErrArg {
			break
		}
		fmt.Fprintln(&out, i, string(data), e)
	}
	order := []int{}
	for i, e := b.f.Take(); e == api.OK; i, e = b.f.Take() {
		order = append(order, i)
	}
	fmt.Fprintln(&out, order)
	slices.Reverse(order)
	for _, i := range order {
		b.f.Give(i)
	}
	return out.String()
}

// ask holds the error of a call against the book's, and, if it is known at that place, against what is written out there; a refused call has changed nothing.
func (b *both) ask(what string, call func() api.Errno, due func() api.Errno, written []api.Errno) {
	b.t.Helper()
	before := b.state()
	got := call()
	for _, e := range append(written, due()) {
		if got != e {
			b.t.Fatalf("%s: %d, not %d", what, got, e)
		}
	}
	if got == api.OK {
		return
	}
	if after := b.state(); after != before {
		b.t.Fatalf("%s was refused, and changed\n%q\nto\n%q", what, before, after)
	}
}

// note keeps a copy of s, as its bytes may be written over.
func (b *both) note(s string) string {
	s = strings.Clone(s)
	b.seen[s] = true
	return s
}

func (b *both) open(s string, flags int, written ...api.Errno) int {
	b.t.Helper()
	own := b.note(s)
	var got, due int
	b.ask(fmt.Sprintf("Open(%q, %d)", own, flags), func() (e api.Errno) {
		got, e = b.v.Open(s, flags)
		return e
	}, func() (e api.Errno) {
		due, e = b.k.open(own, flags)
		return e
	}, written)
	if got != due {
		b.t.Fatalf("Open(%q, %d): %d, not %d", own, flags, got, due)
	}
	return got
}

func (b *both) mkdir(s string, written ...api.Errno) {
	b.t.Helper()
	own := b.note(s)
	b.ask(fmt.Sprintf("Mkdir(%q)", own), func() api.Errno { return b.v.Mkdir(s) }, func() api.Errno { return b.k.mkdir(own) }, written)
}

func (b *both) link(s string, t string, written ...api.Errno) {
	b.t.Helper()
	own, other := b.note(s), b.note(t)
	b.ask(fmt.Sprintf("Link(%q, %q)", own, other), func() api.Errno { return b.v.Link(s, t) }, func() api.Errno { return b.k.link(own, other) }, written)
}

func (b *both) unlink(s string, written ...api.Errno) {
	b.t.Helper()
	own := b.note(s)
	b.ask(fmt.Sprintf("Unlink(%q)", own), func() api.Errno { return b.v.Unlink(s) }, func() api.Errno { return b.k.unlink(own) }, written)
}

func (b *both) rmdir(s string, written ...api.Errno) {
	b.t.Helper()
	own := b.note(s)
	b.ask(fmt.Sprintf("Rmdir(%q)", own), func() api.Errno { return b.v.Rmdir(s) }, func() api.Errno { return b.k.rmdir(own) }, written)
}

// close takes back one open of node id, which is none of the vfs' own calls.
func (b *both) close(id int) {
	b.t.Helper()
	if e := b.v.Nodes().Close(id); e != api.OK {
		b.t.Fatalf("Nodes().Close(%d): %d", id, e)
	}
	b.k.items[id].opens--
	b.k.sweep(id)
}

// reopen opens node id once more, a directory too.
func (b *both) reopen(id int) {
	b.t.Helper()
	if e := b.v.Nodes().Open(id); e != api.OK {
		b.t.Fatalf("Nodes().Open(%d): %d", id, e)
	}
	b.k.items[id].opens++
}

// file makes a file that s names, with n bytes, and closes it.
func (b *both) file(s string, n int) int {
	b.t.Helper()
	id := b.open(s, makeFlag, api.OK)
	b.write(id, pattern(n, id))
	b.close(id)
	return id
}

// write lets file id have these bytes, from its beginning on.
func (b *both) write(id int, data []byte) {
	b.t.Helper()
	if e := b.v.Store().Write(id, 0, data); e != api.OK {
		b.t.Fatalf("Store().Write(%d, 0, of %d): %d", id, len(data), e)
	}
	x := b.k.items[id]
	x.bytes = append(bytes.Clone(data), x.bytes[min(len(x.bytes), len(data)):]...)
}

// pattern answers n bytes, none of which is 0.
func pattern(n int, seed int) []byte {
	data := make([]byte, n)
	for i := range data {
		data[i] = byte(1 + (seed*37+i*5)%251)
	}
	return data
}

// told holds what Walk, Stat and List tell of s against the book.
func (b *both) told(what string, s string) {
	b.t.Helper()
	due, wrong := b.k.walk(s)
	if got, e := b.v.Walk(s); got != due || e != wrong {
		b.t.Fatalf("%s: Walk(%q): %d %d, not %d %d", what, s, got, e, due, wrong)
	}
	var node api.Inode
	if wrong == api.OK {
		node = b.k.inode(due)
	}
	if got, e := b.v.Stat(s); got != node || e != wrong {
		b.t.Fatalf("%s: Stat(%q): %v %d, not %v %d", what, s, got, e, node, wrong)
	}
	var list []api.Entry
	switch {
	case wrong == api.OK && node.Dir:
		list = b.k.list(s)
	case wrong == api.OK:
		wrong = api.ENOTDIR
	}
	if got, e := b.v.List(s); !slices.Equal(got, list) || e != wrong {
		b.t.Fatalf("%s: List(%q): %v %d, not %v %d", what, s, got, e, list, wrong)
	}
}

// toldNode holds what the nodes and the store tell of number id against the book.
func (b *both) toldNode(what string, id int) {
	b.t.Helper()
	var due api.Inode
	var data []byte
	opens := 0
	x := b.k.items[id]
	wrong := api.ErrNone
	if x != nil {
		due, opens, data = b.k.inode(id), x.opens, x.bytes
	}
	if x != nil && !x.dir {
		wrong = api.OK
	}
	if got, there := b.v.Nodes().Get(id); got != due || there != (x != nil) {
		b.t.Fatalf("%s: node %d: %v %t, not %v", what, id, got, there, due)
	}
	if got := b.v.Nodes().Opens(id); got != opens {
		b.t.Fatalf("%s: node %d is open %d times, not %d", what, id, got, opens)
	}
	if got, e := b.v.Store().Read(id, 0, 512); !bytes.Equal(got, data) || e != wrong {
		b.t.Fatalf("%s: the bytes of %d: %v %d, not %v %d", what, id, got, e, data, wrong)
	}
}

// check holds all that is told against the book: of each path that was handed in, of each number.
func (b *both) check(what string) {
	b.t.Helper()
	for s := range b.seen {
		b.told(what, s)
	}
	for id := -1; id < mostNodes+2; id++ {
		b.toldNode(what, id)
	}
	if got := b.v.Nodes().Len(); got != len(b.k.items) {
		b.t.Fatalf("%s: %d nodes, not %d", what, got, len(b.k.items))
	}
	if got := b.f.Free(); got != b.free-b.k.blocks() {
		b.t.Fatalf("%s: %d frames are free, not %d", what, got, b.free-b.k.blocks())
	}
}

// checkEmptied closes all, and takes all paths away, the longest first, and looks at each step.
func (b *both) checkEmptied(what string) {
	b.t.Helper()
	for id := range mostNodes {
		for b.k.items[id] != nil && b.k.items[id].opens > 0 {
			b.close(id)
		}
	}
	b.check(what)
	all := []string{}
	for s := range b.k.paths {
		all = append(all, s)
	}
	slices.SortFunc(all, func(s string, u string) int { return len(u) - len(s) })
	for _, s := range all {
		switch {
		case s == "/":
			b.rmdir(s, api.EINVAL)
		case b.k.isDir(s):
			b.rmdir(s, api.OK)
		default:
			b.unlink(s, api.OK)
		}
	}
	b.check(what)
	if b.v.Nodes().Len() != 1 || b.f.Free() != b.free {
		b.t.Fatalf("%s: %d nodes, %d frames are left", what, b.v.Nodes().Len(), b.f.Free())
	}
}

// strangers are numbers that are no flags: just beside them, the least and the greatest, and those that would be some if their higher bits were lost.
func strangers() []int {
	return []int{
		math.MinInt, math.MinInt + 1, math.MinInt + 7, math.MinInt32, -1 << 32, -256, -255, -64, -16, -9, -8, -7, -6, -5, -4, -3, -2, -1,
		8, 9, 10, 11, 12, 13, 14, 15, 16, 17, 24, 32, 64, 128, 256, 257, 1 << 16, 1<<16 + 1, 1 << 31, 1 << 32, 1<<32 + 1, 1<<32 + 7, 1 << 62,
		math.MaxInt32, math.MaxInt - 7, math.MaxInt - 1, math.MaxInt,
	}
}

// plant answers a vfs with nodes of each kind: files and directories, with and without entries, a full one, as deep as may be, and a file under several names.
func plant(t *testing.T) *both {
	t.Helper()
	b := fresh(t)
	b.mkdir("/d", api.OK)
	b.file("/d/f", 100)
	b.mkdir("/d/e", api.OK)
	b.file("/f", 70)
	b.link("/f", "/d/same", api.OK)
	b.mkdir("/full", api.OK)
	b.mkdir("/full/sub", api.OK)
	for i := range mostEntries - 1 {
		b.link("/f", fmt.Sprint("/full/", i), api.OK)
	}
	for _, s := range []string{"/a", "/a/b", "/a/b/c", "/a/b/c/d", "/a/b/c/d/e"} {
		b.mkdir(s, api.OK)
	}
	b.file("/a/b/c/d/e/f", 512)
	return b
}

// answers are what the calls answer of a path: the row of one of plant's kinds of paths. Links are from it to a name that is not there, and to it from a file.
type answers struct {
	walk, list, open, make, mkdir, unlink, rmdir, from, to api.Errno
}

// all answers a row of one error.
func all(e api.Errno) answers { return answers{e, e, e, e, e, e, e, e, e} }

// kinds are paths in what plant made, with what is answered of each.
func kinds() map[string]answers {
	const o = api.OK
	file := answers{o, api.ENOTDIR, o, o, api.EEXIST, o, api.ENOTDIR, o, api.EEXIST}
	bare := answers{o, o, api.EISDIR, api.EISDIR, api.EEXIST, api.EISDIR, o, api.EPERM, api.EEXIST}
	busy := answers{o, o, api.EISDIR, api.EISDIR, api.EEXIST, api.EISDIR, api.ENOTEMPTY, api.EPERM, api.EEXIST}
	none := answers{api.ENOENT, api.ENOENT, api.ENOENT, o, o, api.ENOENT, api.ENOENT, api.ENOENT, o}
	room := answers{api.ENOENT, api.ENOENT, api.ENOENT, api.ENOSPC, api.ENOSPC, api.ENOENT, api.ENOENT, api.ENOENT, api.ENOSPC}
	kinds := map[string]answers{
		"/": {o, o, api.EISDIR, api.EISDIR, api.EINVAL, api.EINVAL, api.EINVAL, api.EPERM, api.EINVAL},
	}
	for like, list := range map[answers][]string{
		file:                  {"/f", "/d/f", "/d/same", "/full/0", "/full/6", "/a/b/c/d/e/f"},
		bare:                  {"/d/e", "/full/sub"},
		busy:                  {"/d", "/full", "/a", "/a/b", "/a/b/c/d/e"},
		none:                  {"/n", "/d/n", "/d/e/n", "/full/sub/n", "/a/b/c/d/e/n", "/12345678", "/F", "/f ", "/...", "/\xff", "/e", "/same", "/d/d"},
		room:                  {"/full/n", "/full/7", "/full/same"},
		all(api.ENOENT):       {"/n/x", "/n/x/y", "/d/n/x", "/d/e/n/x", "/full/n/x", "/n/n/n/n/n/n", "/e/f", "", "//", "///", "/f/", "/d/", "/n/", "//f", "/d//f", "/f//x", "/d/f//", "/d/12345678/"},
		all(api.ENOTDIR):      {"/f/x", "/f/x/y", "/d/f/x", "/d/same/f", "/full/0/n", "/f/n/n/n/n/n"},
		all(api.EINVAL):       {"f", "d/f", ".", "..", "\x00", " /f", "\x00/f", "/.", "/..", "/d/.", "/d/..", "/d/../f", "/./f", "/\x00", "/f\x00", "/n/.", "/f/..", "/f/\x00", "/d/./"},
		all(api.ENAMETOOLONG): {"/123456789", "/d/123456789", "/f/123456789", "/n/123456789", "/123456789/", "/a/b/c/d/e/f/g", "/a/b/c/d/e/n/n", "/n/n/n/n/n/n/n", "/f/n/n/n/n/n/n"},
	} {
		for _, s := range list {
			kinds[s] = like
		}
	}
	return kinds
}

// P22.1 to P22.3: the document's example.
func TestExample(t *testing.T) {
	f, _ := frames.New(1)
	v := vfs.New(f)
	if e := v.Mkdir("/d"); e != api.OK {
		t.Errorf("Mkdir(/d): %d", e)
	}
	if id, e := v.Open("/d/f", api.FlagMake); id != 2 || e != api.OK {
		t.Errorf("Open(/d/f, FlagMake): %d %d", id, e)
	}
	if e := v.Link("/d/f", "/g"); e != api.OK {
		t.Errorf("Link(/d/f, /g): %d", e)
	}
	if e := v.Unlink("/d/f"); e != api.OK {
		t.Errorf("Unlink(/d/f): %d", e)
	}
	if e := v.Rmdir("/d"); e != api.OK {
		t.Errorf("Rmdir(/d): %d", e)
	}
	if x, e := v.Stat("/g"); x != (api.Inode{ID: 2, Links: 1}) || e != api.OK {
		t.Errorf("Stat(/g): %v %d", x, e)
	}
}

// P22.1: a new vfs has the root alone, and takes no frame.
func TestNew(t *testing.T) {
	for _, n := range []int{1, 2, 63, 64} {
		b := over(t, n)
		if b.v == nil || b.v.Nodes() == nil || b.v.Store() == nil {
			t.Fatal("New: nil")
		}
		for s := range kinds() {
			b.seen[s] = true
		}
		b.check("new")
		if x, e := b.v.Stat("/"); x != (api.Inode{Dir: true}) || e != api.OK || b.v.Nodes().Opens(0) != 0 || b.v.Nodes().Len() != 1 {
			t.Errorf("the root: %v %d", x, e)
		}
		b.mkdir("/d", api.OK)
		b.file("/f", 64)
		b.check("made")
		b.checkEmptied("made")
	}
}

// R3: New of no frames answers no vfs, and each call of none says so, ahead of all that is wrong beside.
func TestNil(t *testing.T) {
	var none *vfs.Vfs
	for _, v := range []*vfs.Vfs{none, vfs.New(nil)} {
		for s := range kinds() {
			if id, e := v.Walk(s); id != 0 || e != api.ErrNil {
				t.Errorf("Walk(%q): %d %d", s, id, e)
			}
			if x, e := v.Stat(s); x != (api.Inode{}) || e != api.ErrNil {
				t.Errorf("Stat(%q): %v %d", s, x, e)
			}
			if list, e := v.List(s); len(list) != 0 || e != api.ErrNil {
				t.Errorf("List(%q): %v %d", s, list, e)
			}
			for _, flags := range append(strangers(), 0, 1, 2, 3, 4, 5, 6, 7) {
				if id, e := v.Open(s, flags); id != 0 || e != api.ErrNil {
					t.Errorf("Open(%q, %d): %d %d", s, flags, id, e)
				}
			}
			for what, e := range map[string]api.Errno{
				"Mkdir": v.Mkdir(s), "Unlink": v.Unlink(s), "Rmdir": v.Rmdir(s), "Link from": v.Link(s, "/n"), "Link to": v.Link("/f", s),
			} {
				if e != api.ErrNil {
					t.Errorf("%s %q: %d", what, s, e)
				}
			}
		}
		if v.Nodes() != nil || v.Store() != nil {
			t.Error("parts of no vfs")
		}
	}
}

// P22.1: Walk, Stat and List of each kind of path.
func TestWalkStatList(t *testing.T) {
	b := plant(t)
	for s, want := range kinds() {
		b.seen[s] = true
		id, e := b.v.Walk(s)
		if e != want.walk || e != api.OK && id != 0 {
			t.Errorf("Walk(%q): %d %d, not %d", s, id, e, want.walk)
		}
		x, e := b.v.Stat(s)
		if node, there := b.v.Nodes().Get(id); e != want.walk || e == api.OK && (x != node || !there) || e != api.OK && x != (api.Inode{}) {
			t.Errorf("Stat(%q): %v %d, not %d", s, x, e, want.walk)
		}
		list, e := b.v.List(s)
		if due, _ := b.v.Nodes().List(id); e != want.list || e == api.OK && !slices.Equal(list, due) || e != api.OK && len(list) != 0 {
			t.Errorf("List(%q): %v %d, not %d", s, list, e, want.list)
		}
	}
	b.check("asked")
}

// P22.1: numbers, nodes and entries, written out.
func TestWalkStatListByHand(t *testing.T) {
	b := plant(t)
	for _, c := range []struct {
		s string
		x api.Inode
	}{
		{"/", api.Inode{ID: 0, Links: 0, Dir: true, Size: 4}},
		{"/d", api.Inode{ID: 1, Links: 1, Dir: true, Size: 3}},
		{"/d/f", api.Inode{ID: 2, Links: 1, Size: 100}},
		{"/d/e", api.Inode{ID: 3, Links: 1, Dir: true}},
		{"/f", api.Inode{ID: 4, Links: 9, Size: 70}},
		{"/d/same", api.Inode{ID: 4, Links: 9, Size: 70}},
		{"/full", api.Inode{ID: 5, Links: 1, Dir: true, Size: 8}},
		{"/full/sub", api.Inode{ID: 6, Links: 1, Dir: true}},
		{"/a/b/c/d/e", api.Inode{ID: 11, Links: 1, Dir: true, Size: 1}},
		{"/a/b/c/d/e/f", api.Inode{ID: 12, Links: 1, Size: 512}},
	} {
		if id, e := b.v.Walk(c.s); id != c.x.ID || e != api.OK {
			t.Errorf("Walk(%q): %d %d", c.s, id, e)
		}
		if x, e := b.v.Stat(c.s); x != c.x || e != api.OK {
			t.Errorf("Stat(%q): %v %d", c.s, x, e)
		}
	}
	for s, want := range map[string][]api.Entry{
		"/":          {{Name: "a", ID: 7}, {Name: "d", ID: 1}, {Name: "f", ID: 4}, {Name: "full", ID: 5}},
		"/d":         {{Name: "e", ID: 3}, {Name: "f", ID: 2}, {Name: "same", ID: 4}},
		"/d/e":       {},
		"/a/b/c/d":   {{Name: "e", ID: 11}},
		"/a/b/c/d/e": {{Name: "f", ID: 12}},
		"/full/sub":  {},
	} {
		if list, e := b.v.List(s); !slices.Equal(list, want) || e != api.OK {
			t.Errorf("List(%q): %v %d", s, list, e)
		}
	}
}

// P22.1: a path has so many names at most, and each of them is gone through.
func TestDepth(t *testing.T) {
	b := fresh(t)
	deep := ""
	for depth := 1; depth < mostDepth; depth++ {
		deep += "/x"
		b.mkdir(deep, api.OK)
		if id, e := b.v.Walk(deep); id != depth || e != api.OK {
			t.Fatalf("Walk(%q): %d %d", deep, id, e)
		}
		b.check("deeper")
	}
	b.mkdir(deep+"/x", api.OK)
	b.mkdir(deep+"/x/x", api.ENAMETOOLONG)
	b.open(deep+"/x/x", makeFlag, api.ENAMETOOLONG)
	b.open(deep+"/f", makeFlag, api.OK)
	b.link(deep+"/f", deep+"/g", api.OK)
	b.link(deep+"/f", deep+"/x/f", api.ENAMETOOLONG)
	b.link(deep+"/f", "/f", api.OK)
	b.unlink(deep+"/x/x", api.ENAMETOOLONG)
	b.rmdir(deep+"/x/x", api.ENAMETOOLONG)
	b.check("as deep as may be")
	b.unlink(deep+"/f", api.OK)
	b.rmdir(deep+"/x", api.OK)
	b.rmdir(deep, api.ENOTEMPTY)
	b.checkEmptied("as deep as may be")
}

// P22.1: Nodes and Store are those that the paths name, the same ones each time.
func TestParts(t *testing.T) {
	b := fresh(t)
	nodes, bytesOf := b.v.Nodes(), b.v.Store()
	b.mkdir("/d", api.OK)
	f := b.open("/d/f", makeFlag, api.OK)
	if nodes != b.v.Nodes() || bytesOf != b.v.Store() {
		t.Fatal("the parts are others")
	}
	if id, e := nodes.Find(1, "f"); id != f || e != api.OK || nodes.Opens(f) != 1 {
		t.Errorf("Nodes of what Open made: %d %d", id, e)
	}
	if e := bytesOf.Write(f, 0, pattern(65, 1)); e != api.OK {
		t.Errorf("Store of what Open made: %d", e)
	}
	if x, e := b.v.Stat("/d/f"); x != (api.Inode{ID: f, Links: 1, Size: 65}) || e != api.OK || b.f.Free() != allFrames-2 {
		t.Errorf("Stat of what was written: %v %d", x, e)
	}
	id, _ := nodes.Make(true)
	nodes.Enter(0, "by", id)
	nodes.Enter(id, "also", f)
	nodes.Close(id)
	if got, e := b.v.Walk("/by"); got != id || e != api.OK {
		t.Errorf("Walk to what Nodes made: %d %d", got, e)
	}
	if got, e := b.v.Open("/by/also", 0); got != f || e != api.OK || nodes.Opens(f) != 2 {
		t.Errorf("Open of what Nodes entered: %d %d", got, e)
	}
	nodes.Remove(1, "f")
	if _, e := b.v.Walk("/d/f"); e != api.ENOENT {
		t.Errorf("Walk to what Nodes removed: %d", e)
	}
	if e := b.v.Rmdir("/by"); e != api.ENOTEMPTY {
		t.Errorf("Rmdir of what Nodes filled: %d", e)
	}
}

// P22.1 to P22.3: a directory that has two names, one of them in itself, is walked through by each.
func TestDirectoryInItself(t *testing.T) {
	b := fresh(t)
	b.v.Mkdir("/d")
	for _, entry := range []struct {
		dir  int
		name string
	}{{1, "me"}, {0, "also"}} {
		if e := b.v.Nodes().Enter(entry.dir, entry.name, 1); e != api.OK {
			t.Fatalf("Enter(%d, %s, 1): %d", entry.dir, entry.name, e)
		}
	}
	for _, s := range []string{"/d", "/also", "/d/me", "/also/me", "/d/me/me/me/me/me"} {
		if x, e := b.v.Stat(s); x != (api.Inode{ID: 1, Links: 3, Dir: true, Size: 1}) || e != api.OK {
			t.Errorf("Stat(%q): %v %d", s, x, e)
		}
		if e := b.v.Rmdir(s); e != api.ENOTEMPTY {
			t.Errorf("Rmdir(%q): %d", s, e)
		}
		if e := b.v.Link(s, "/l"); e != api.EPERM {
			t.Errorf("Link(%q): %d", s, e)
		}
	}
	if id, e := b.v.Open("/d/me/me/me/me/f", makeFlag); id != 2 || e != api.OK {
		t.Errorf("Open: %d %d", id, e)
	}
	if x, e := b.v.Stat("/also/f"); x != (api.Inode{ID: 2, Links: 1}) || e != api.OK {
		t.Errorf("Stat: %v %d", x, e)
	}
	if _, e := b.v.Walk("/d/me/me/me/me/me/f"); e != api.ENAMETOOLONG {
		t.Errorf("Walk too deep: %d", e)
	}
}

// P22.2: Open of each kind of path with each flag, and all of them together.
func TestOpenKinds(t *testing.T) {
	for s, want := range kinds() {
		for flags := range 8 {
			b := plant(t)
			due := want.open
			if flags&makeFlag != 0 {
				due = want.make
			}
			id := b.open(s, flags, due)
			b.check("opened")
			if due != api.OK {
				continue
			}
			opens := 1
			for range 3 {
				if got := b.v.Nodes().Opens(id); got != opens {
					t.Fatalf("Open(%q, %d): open %d times, not %d", s, flags, got, opens)
				}
				b.open(s, flags, api.OK)
				opens++
			}
			b.open(s, 0, api.OK)
			b.check("opened again")
			b.checkEmptied("opened again")
		}
	}
}

// P22.2: flags below 0 and above 7 are refused, whatever the path is.
func TestOpenWrongFlags(t *testing.T) {
	b := plant(t)
	for s := range kinds() {
		b.seen[s] = true
		for _, flags := range strangers() {
			if id, e := b.v.Open(s, flags); id != 0 || e != api.EINVAL {
				t.Errorf("Open(%q, %d): %d %d", s, flags, id, e)
			}
		}
	}
	for flags := -300; flags < 300; flags++ {
		if _, e := b.v.Open("/d", flags); (e == api.EISDIR) != (flags >= 0 && flags <= 7) || e != api.EISDIR && e != api.EINVAL {
			t.Errorf("Open(/d, %d): %d", flags, e)
		}
	}
	b.check("wrong flags")
}

// P22.2: with FlagFresh a file that is there has no bytes any more, by whichever name, however often it is open; without it has all.
func TestOpenFresh(t *testing.T) {
	for _, size := range []int{0, 1, 63, 64, 65, 128, 300, 512} {
		for flags := range 8 {
			for opens := range 3 {
				for _, s := range []string{"/f", "/d/g"} {
					b := fresh(t)
					b.mkdir("/d", api.OK)
					other := b.file("/other", 90)
					f := b.file("/f", size)
					b.link("/f", "/d/g", api.OK)
					for range opens {
						b.open("/f", 0, api.OK)
					}
					left, blocks := size, (size+frameBytes-1)/frameBytes
					if flags&freshFlag != 0 {
						left, blocks = 0, 0
					}
					b.open(s, flags, api.OK)
					if x, e := b.v.Stat("/f"); x != (api.Inode{ID: f, Links: 2, Size: left}) || e != api.OK || b.v.Store().Blocks(f) != blocks || b.f.Free() != allFrames-2-blocks {
						t.Fatalf("Open(%q, %d): %v %d, %d frames", s, flags, x, e, b.v.Store().Blocks(f))
					}
					if b.v.Nodes().Opens(f) != opens+1 || b.v.Nodes().Opens(other) != 0 || b.v.Store().Blocks(other) != 2 {
						t.Fatalf("Open(%q, %d): open %d times", s, flags, b.v.Nodes().Opens(f))
					}
					b.check("opened")
					b.checkEmptied("opened")
				}
			}
		}
	}
}

// P22.2: of a directory nothing is taken, with any flags, and it is not open behind it.
func TestOpenDirectory(t *testing.T) {
	b := plant(t)
	for _, s := range []string{"/", "/d", "/d/e", "/full", "/a/b/c"} {
		id, _ := b.v.Walk(s)
		for flags := range 8 {
			b.open(s, flags, api.EISDIR)
			if n := b.v.Nodes().Opens(id); n != 0 {
				t.Errorf("%s is open %d times", s, n)
			}
		}
	}
	b.check("directories")
}

// P22.2: a file that is made is empty, open once, has one link, and the least free number.
func TestOpenMake(t *testing.T) {
	b := fresh(t)
	for id := 1; id < mostNodes; id++ {
		if id%4 == 1 {
			b.mkdir(fmt.Sprint("/d", id), api.OK)
			continue
		}
		s := fmt.Sprintf("/d%d/f%d", id-(id+3)%4, id)
		if got := b.open(s, makeFlag|id&freshFlag|id&endFlag, api.OK); got != id {
			t.Fatalf("Open(%q): %d, not %d", s, got, id)
		}
		if x, e := b.v.Stat(s); x != (api.Inode{ID: id, Links: 1}) || e != api.OK || b.v.Nodes().Opens(id) != 1 {
			t.Fatalf("Stat(%q): %v %d, open %d times", s, x, e, b.v.Nodes().Opens(id))
		}
		b.write(id, pattern(50, id))
		b.check("made")
	}
	for _, id := range []int{12, 3, 7} {
		b.close(id)
		b.unlink(fmt.Sprintf("/d%d/f%d", id-(id+3)%4, id), api.OK)
	}
	for _, id := range []int{3, 7, 12} {
		if got := b.open(fmt.Sprint("/again", id), makeFlag, api.OK); got != id {
			t.Fatalf("Open: %d, not %d, which is free again", got, id)
		}
		b.check("made again")
	}
	b.checkEmptied("made")
}

// P22.2, P22.3: without a free node nothing is made, by none of the calls; what is there is opened and named as ever.
func TestNoNodeLeft(t *testing.T) {
	b := plant(t)
	for id := 13; id < mostNodes; id++ {
		b.file(fmt.Sprint("/d/", id), 0)
	}
	for s, want := range kinds() {
		due := want.make
		if due == api.OK && want.walk != api.OK {
			due = api.ENOSPC
		}
		if due != api.OK {
			b.open(s, makeFlag, due)
			b.open(s, makeFlag|freshFlag|endFlag, due)
		}
		due = want.mkdir
		if due == api.OK {
			due = api.ENOSPC
		}
		b.mkdir(s, due)
	}
	b.check("no node is left")
	b.open("/f", makeFlag, api.OK)
	b.link("/f", "/n", api.OK)
	b.link("/f", "/full/n", api.ENOSPC)
	b.check("no node is left")
	b.unlink("/d/14", api.OK)
	b.open("/full/n", makeFlag, api.ENOSPC)
	b.mkdir("/full/n", api.ENOSPC)
	if id := b.open("/d/n", makeFlag, api.OK); id != 14 {
		t.Errorf("the number that is free again: 14, not %d", id)
	}
	b.check("one was left")
	b.checkEmptied("no node is left")
}

// P22.2, P22.3: what was made and can't be entered is gone again: its number is the next one, and no frame is gone.
func TestGoneAgain(t *testing.T) {
	for _, up := range []string{"/", "/d/"} {
		b := fresh(t)
		b.mkdir("/d", api.OK)
		b.file("/d/0", 100)
		for i := 1; i < mostEntries; i++ {
			b.link("/d/0", fmt.Sprint(up, i), api.OK)
		}
		nodes, free := b.v.Nodes().Len(), b.f.Free()
		for flags := makeFlag; flags < 8; flags += 2 {
			if id := b.open(up+"more", flags, api.ENOSPC); id != 0 {
				t.Fatalf("Open of one too many: %d", id)
			}
			b.mkdir(up+"more", api.ENOSPC)
			b.link("/d/0", up+"more", api.ENOSPC)
			b.check("one too many")
		}
		if b.v.Nodes().Len() != nodes || b.f.Free() != free || b.v.Nodes().Opens(nodes) != 0 || b.v.Store().Blocks(nodes) != 0 {
			t.Fatalf("%d nodes, %d frames are free", b.v.Nodes().Len(), b.f.Free())
		}
		if _, e := b.v.Store().Size(nodes); e != api.ErrNone {
			t.Fatalf("bytes of what is gone again: %d", e)
		}
		b.unlink(up+"1", api.OK)
		if id := b.open(up+"more", makeFlag, api.OK); id != nodes {
			t.Fatalf("Open: %d, not %d", id, nodes)
		}
		b.checkEmptied("one too many")
	}
}

// P22.3: Mkdir, Unlink, Rmdir and Link of each kind of path.
func TestChangeKinds(t *testing.T) {
	for s, want := range kinds() {
		b := plant(t)
		b.mkdir(s, want.mkdir)
		b.check("Mkdir")
		b.checkEmptied("Mkdir")
		b = plant(t)
		b.unlink(s, want.unlink)
		b.check("Unlink")
		b.checkEmptied("Unlink")
		b = plant(t)
		b.rmdir(s, want.rmdir)
		b.check("Rmdir")
		b.checkEmptied("Rmdir")
		b = plant(t)
		b.link(s, "/new", want.from)
		b.check("Link from")
		b.checkEmptied("Link from")
		b = plant(t)
		b.link("/d/f", s, want.to)
		b.check("Link to")
		b.checkEmptied("Link to")
	}
}

// P22.3: Link from each kind of path to each: what is wrong with the first one is told first.
func TestLinkEachToEach(t *testing.T) {
	b := plant(t)
	for s, from := range kinds() {
		for u, to := range kinds() {
			due := from.from
			if due == api.OK {
				due = to.to
			}
			b.link(s, u, due)
			if due == api.OK {
				x, e := b.v.Stat(s)
				if y, f := b.v.Stat(u); x != y || e != api.OK || f != api.OK {
					t.Fatalf("Link(%q, %q): %v and %v", s, u, x, y)
				}
				b.unlink(u, api.OK)
			}
		}
	}
	b.check("linked")
	b.checkEmptied("linked")
}

// P22.3: a directory that is made is empty, has one link, isn't open, and the least free number.
func TestMkdir(t *testing.T) {
	b := fresh(t)
	up := ""
	for id := 1; id < mostNodes; id++ {
		if id == 8 {
			up = "/1"
		}
		s := fmt.Sprint(up, "/", id)
		b.mkdir(s, api.OK)
		if x, e := b.v.Stat(s); x != (api.Inode{ID: id, Links: 1, Dir: true}) || e != api.OK || b.v.Nodes().Opens(id) != 0 {
			t.Fatalf("Stat(%q): %v %d, open %d times", s, x, e, b.v.Nodes().Opens(id))
		}
		if list, e := b.v.List(s); len(list) != 0 || e != api.OK {
			t.Fatalf("List(%q): %v %d", s, list, e)
		}
		b.mkdir(s, api.EEXIST)
		b.check("made")
	}
	b.mkdir("/n", api.ENOSPC)
	b.rmdir("/5", api.OK)
	b.rmdir("/1/9", api.OK)
	b.mkdir("/4/n", api.OK)
	if id, e := b.v.Walk("/4/n"); id != 5 || e != api.OK {
		t.Errorf("Walk: %d %d", id, e)
	}
	b.check("made again")
	b.checkEmptied("made")
	if b.f.Free() != allFrames {
		t.Errorf("%d frames are free", b.f.Free())
	}
}

// P22.3: a file has a link for each of its names, and is there by the others when one is taken away, open or not.
func TestLinkUnlink(t *testing.T) {
	names := []string{"/f", "/g", "/d/f", "/d/e/f"}
	for first := range names {
		for opens := range 3 {
			b := fresh(t)
			b.mkdir("/d", api.OK)
			b.mkdir("/d/e", api.OK)
			f := b.file(names[0], 130)
			for range opens {
				b.open(names[0], 0, api.OK)
			}
			for i := 1; i < len(names); i++ {
				b.link(names[i-1], names[i], api.OK)
				if x, e := b.v.Stat(names[i]); x != (api.Inode{ID: f, Links: i + 1, Size: 130}) || e != api.OK {
					t.Fatalf("Stat(%q): %v %d", names[i], x, e)
				}
				b.check("linked")
			}
			for i := range names {
				s := names[(first+i)%len(names)]
				b.link(s, s, api.EEXIST)
				b.unlink(s, api.OK)
				b.unlink(s, api.ENOENT)
				x, there := b.v.Nodes().Get(f)
				if left := len(names) - 1 - i; x.Links != left || there != (left > 0 || opens > 0) {
					t.Fatalf("Unlink(%q): %v %t, %d links are left", s, x, there, left)
				}
				b.check("unlinked")
			}
			b.checkEmptied("unlinked")
		}
	}
}

// P22.3: a file that is unlinked while it is open has its bytes till it is closed; its name may be another file's by then.
func TestUnlinkOpen(t *testing.T) {
	for opens := 1; opens < 4; opens++ {
		b := fresh(t)
		f := b.open("/f", makeFlag, api.OK)
		b.write(f, pattern(200, 3))
		for range opens - 1 {
			b.open("/f", 0, api.OK)
		}
		b.unlink("/f", api.OK)
		b.open("/f", 0, api.ENOENT)
		b.link("/f", "/g", api.ENOENT)
		b.check("unlinked")
		g := b.open("/f", makeFlag|freshFlag, api.OK)
		if g == f || b.v.Nodes().Opens(f) != opens || b.v.Store().Blocks(f) != 4 {
			t.Fatalf("another file of that name: %d and %d", g, f)
		}
		b.write(g, pattern(10, 4))
		b.write(f, pattern(210, 5))
		b.check("another file of that name")
		for range opens {
			b.close(f)
			b.check("closed")
		}
		if b.f.Free() != allFrames-1 || b.v.Nodes().Len() != 2 {
			t.Fatalf("closed: %d frames are free, %d nodes", b.f.Free(), b.v.Nodes().Len())
		}
		b.checkEmptied("closed")
	}
}

// P22.3: a directory without entries is gone with its name, but if it is open: then when it is closed. With entries it stays.
func TestRmdir(t *testing.T) {
	for opens := range 3 {
		b := fresh(t)
		b.mkdir("/d", api.OK)
		b.mkdir("/d/e", api.OK)
		b.file("/d/f", 20)
		for range opens {
			b.reopen(1)
		}
		b.rmdir("/d", api.ENOTEMPTY)
		b.rmdir("/d/f", api.ENOTDIR)
		b.unlink("/d/e", api.EISDIR)
		b.unlink("/d/f", api.OK)
		b.rmdir("/d", api.ENOTEMPTY)
		b.rmdir("/d/e", api.OK)
		b.rmdir("/d/e", api.ENOENT)
		b.check("emptied")
		b.rmdir("/d", api.OK)
		b.open("/d/f", makeFlag, api.ENOENT)
		b.mkdir("/d/e", api.ENOENT)
		b.rmdir("/d/e", api.ENOENT)
		b.rmdir("/d", api.ENOENT)
		if _, there := b.v.Nodes().Get(1); there != (opens > 0) {
			t.Fatalf("open %d times: there it is: %t", opens, there)
		}
		b.check("its name is gone")
		b.mkdir("/d", api.OK)
		b.open("/d/f", makeFlag, api.OK)
		b.check("another one of that name")
		b.checkEmptied("another one of that name")
	}
}

// P22.3: each name of a full directory can be taken away, whereupon there is room for one.
func TestFullDirectory(t *testing.T) {
	for at := range mostEntries {
		for way := range 3 {
			b := fresh(t)
			b.mkdir("/d", api.OK)
			for i := range mostEntries {
				b.file(fmt.Sprint("/d/", i), i)
			}
			makeOne := func(written api.Errno) {
				switch way {
				case 0:
					b.open("/d/n", makeFlag, written)
				case 1:
					b.mkdir("/d/n", written)
				default:
					b.link(fmt.Sprint("/d/", (at+1)%mostEntries), "/d/n", written)
				}
				b.check("made")
			}
			makeOne(api.ENOSPC)
			b.unlink(fmt.Sprint("/d/", at), api.OK)
			makeOne(api.OK)
			b.mkdir("/d/more", api.ENOSPC)
			b.checkEmptied("made")
		}
	}
}

// R6: of several errors the one that the chapter names first is told.
func TestFirstError(t *testing.T) {
	b := plant(t)
	for id := 13; id < mostNodes; id++ {
		b.file(fmt.Sprint("/d/e/", id), 0)
	}
	v := b.v
	open := func(s string, flags int) api.Errno {
		_, e := v.Open(s, flags)
		return e
	}
	before := b.state()
	for _, c := range []struct {
		what string
		got  func() api.Errno
		want api.Errno
	}{
		{"Open: flags, path", func() api.Errno { return open("", 8) }, api.EINVAL},
		{"Open: flags, too long", func() api.Errno { return open("/123456789", -1) }, api.EINVAL},
		{"Open: flags, directory", func() api.Errno { return open("/d", 15) }, api.EINVAL},
		{"Open: flags, not there", func() api.Errno { return open("/n", 9) }, api.EINVAL},
		{"Open: too long, through a file", func() api.Errno { return open("/f/123456789", 1) }, api.ENAMETOOLONG},
		{"Open: no name, through a file", func() api.Errno { return open("/f/x/..", 1) }, api.EINVAL},
		{"Open: too deep, nothing there", func() api.Errno { return open("/n/n/n/n/n/n/n", 1) }, api.ENAMETOOLONG},
		{"Open: above it nothing, no node", func() api.Errno { return open("/n/x", 1) }, api.ENOENT},
		{"Open: above it a file, no node", func() api.Errno { return open("/f/x", 1) }, api.ENOTDIR},
		{"Mkdir: no name, above it a file", func() api.Errno { return v.Mkdir("/f/.") }, api.EINVAL},
		{"Mkdir: above it nothing, no node", func() api.Errno { return v.Mkdir("/n/x") }, api.ENOENT},
		{"Mkdir: above it a file, no node", func() api.Errno { return v.Mkdir("/f/x") }, api.ENOTDIR},
		{"Mkdir: there, full, no node", func() api.Errno { return v.Mkdir("/full/sub") }, api.EEXIST},
		{"Mkdir: there, no node", func() api.Errno { return v.Mkdir("/f") }, api.EEXIST},
		{"Link: from nothing, to no path", func() api.Errno { return v.Link("/n", "n") }, api.ENOENT},
		{"Link: from no path, to none", func() api.Errno { return v.Link("/123456789", "n") }, api.ENAMETOOLONG},
		{"Link: from a file's, to there", func() api.Errno { return v.Link("/f/x", "/f") }, api.ENOTDIR},
		{"Link: directory, to no path", func() api.Errno { return v.Link("/d", "") }, api.EPERM},
		{"Link: the root, to the root", func() api.Errno { return v.Link("/", "/") }, api.EPERM},
		{"Link: directory, to there", func() api.Errno { return v.Link("/d", "/f") }, api.EPERM},
		{"Link: directory, above it nothing", func() api.Errno { return v.Link("/d", "/n/x") }, api.EPERM},
		{"Link: to no name, above it a file", func() api.Errno { return v.Link("/f", "/f/..") }, api.EINVAL},
		{"Link: there, full", func() api.Errno { return v.Link("/f", "/full/0") }, api.EEXIST},
		{"Unlink: no name, above it a file", func() api.Errno { return v.Unlink("/f/.") }, api.EINVAL},
		{"Unlink: above it a file", func() api.Errno { return v.Unlink("/f/x") }, api.ENOTDIR},
		{"Unlink: directory with entries", func() api.Errno { return v.Unlink("/d") }, api.EISDIR},
		{"Rmdir: no name, above it a file", func() api.Errno { return v.Rmdir("/f/.") }, api.EINVAL},
		{"Rmdir: above it nothing", func() api.Errno { return v.Rmdir("/n/x") }, api.ENOENT},
		{"Rmdir: a file", func() api.Errno { return v.Rmdir("/d/same") }, api.ENOTDIR},
	} {
		if got := c.got(); got != c.want {
			t.Errorf("%s: %d, not %d", c.what, got, c.want)
		}
	}
	if after := b.state(); after != before {
		t.Errorf("refused calls changed\n%q\nto\n%q", before, after)
	}
}

// R5: names alone take no frame: all goes on without a free one.
func TestNoFrameLeft(t *testing.T) {
	b := over(t, 2)
	f := b.file("/f", 128)
	if e := b.v.Store().Write(f, 128, []byte("a")); e != api.ENOSPC {
		t.Fatalf("no frame is free: %d", e)
	}
	b.mkdir("/d", api.OK)
	g := b.open("/d/g", makeFlag|freshFlag, api.OK)
	b.link("/f", "/d/f", api.OK)
	b.unlink("/f", api.OK)
	b.mkdir("/d/e", api.OK)
	b.rmdir("/d/e", api.OK)
	if e := b.v.Store().Write(g, 0, []byte("a")); e != api.ENOSPC {
		t.Fatalf("no frame is free: %d", e)
	}
	b.check("no frame is free")
	b.open("/d/f", freshFlag, api.OK)
	b.write(g, pattern(65, 1))
	b.check("frames are free again")
	b.checkEmptied("frames are free again")
}

// P22.2: of a file whose bytes others took out of the store FlagFresh finds none, and it is opened.
func TestOpenFreshWithoutBytes(t *testing.T) {
	b := fresh(t)
	f := b.file("/f", 100)
	if e := b.v.Store().Drop(f); e != api.OK {
		t.Fatalf("Store().Drop(%d): %d", f, e)
	}
	if id, e := b.v.Open("/f", freshFlag); id != f || e != api.OK || b.v.Nodes().Opens(f) != 1 {
		t.Errorf("Open: %d %d", id, e)
	}
	if x, e := b.v.Stat("/f"); x != (api.Inode{ID: f, Links: 1}) || e != api.OK {
		t.Errorf("Stat: %v %d", x, e)
	}
}

// text answers the text that stands in these bytes, not a copy of it.
func text(data []byte) string { return unsafe.String(unsafe.SliceData(data), len(data)) }

// share answers whether two texts have memory together.
func share(s string, u string) bool {
	a, b := uintptr(unsafe.Pointer(unsafe.StringData(s))), uintptr(unsafe.Pointer(unsafe.StringData(u)))
	return len(s) > 0 && len(u) > 0 && a < b+uintptr(len(u)) && b < a+uintptr(len(s))
}

// R4: a path that was handed in is not changed, and not kept: its bytes may change.
func TestPathsNotKept(t *testing.T) {
	b := plant(t)
	call := func(s string, do func(s string)) {
		data := []byte(s + "/spare")
		do(text(data[:len(s)]))
		if string(data) != s+"/spare" {
			t.Fatalf("the path %q was changed: %q", s, data)
		}
		for i := range data {
			data[i] = '#'
		}
		b.check("a path's bytes changed")
	}
	call("/d/e", func(s string) { b.told("told", s) })
	call("/d/new", func(s string) { b.mkdir(s, api.OK) })
	call("/d/new/f", func(s string) { b.open(s, makeFlag, api.OK) })
	call("/d/new/f", func(s string) { b.open(s, freshFlag, api.OK) })
	call("/d/new/f", func(s string) { b.link(s, "/d/new/g", api.OK) })
	call("/d/new/h", func(s string) { b.link("/d/new/f", s, api.OK) })
	call("/d/new/f", func(s string) { b.unlink(s, api.OK) })
	call("/d/e", func(s string) { b.rmdir(s, api.OK) })
	call("/full/n", func(s string) { b.open(s, makeFlag, api.ENOSPC) })
	call("/full/n", func(s string) { b.mkdir(s, api.ENOSPC) })
	call("/full/n", func(s string) { b.link("/f", s, api.ENOSPC) })
	b.checkEmptied("paths' bytes changed")
}

// R4: a list is new memory, its names and its spare room too: the vfs does not change with it, nor another list, nor it with the vfs.
func TestListIsNewMemory(t *testing.T) {
	b := plant(t)
	for _, s := range []string{"/", "/d", "/full", "/d/e", "/a/b/c/d/e"} {
		due := b.k.list(s)
		first, _ := b.v.List(s)
		second, _ := b.v.List(s)
		for j := range first {
			for k := range second {
				if share(first[j].Name, second[k].Name) || j != k && share(first[j].Name, first[k].Name) {
					t.Fatalf("two names share memory: %q, %q", first[j].Name, second[k].Name)
				}
			}
		}
		first = append(first, api.Entry{Name: "more", ID: 3})
		b.check("a list grew")
		first = first[:cap(first)]
		for j := range first {
			first[j] = api.Entry{Name: "zz", ID: 9}
		}
		b.check("a list changed")
		if !slices.Equal(second, due) {
			t.Fatalf("%v became %v with another list", due, second)
		}
	}
	list, _ := b.v.List("/d")
	due := slices.Clone(list)
	b.unlink("/d/f", api.OK)
	b.open("/d/a", makeFlag, api.OK)
	b.open("/d/z", makeFlag, api.OK)
	b.rmdir("/d/e", api.OK)
	if !slices.Equal(list, due) {
		t.Errorf("%v became %v with the directory", due, list)
	}
	data := []byte("/d/name")
	b.open(text(data), makeFlag, api.OK)
	list, _ = b.v.List("/d")
	for _, x := range list {
		if share(x.Name, text(data)) {
			t.Errorf("a name that was told shares memory with a path: %q", x.Name)
		}
	}
}

// P22.1: what only tells changes nothing, and tells the same again.
func TestTellingChangesNothing(t *testing.T) {
	b := plant(t)
	for s := range kinds() {
		b.seen[s] = true
	}
	before := b.state()
	for range 3 {
		b.check("asked")
	}
	if after := b.state(); after != before {
		t.Errorf("asking changed\n%q\nto\n%q", before, after)
	}
}

// Each answer of New stands alone, over frames of its own and over the same ones.
func TestApart(t *testing.T) {
	a, b := plant(t), fresh(t)
	b.check("the other one")
	b.mkdir("/d", api.OK)
	b.file("/d/f", 30)
	a.check("the one")
	a.checkEmptied("the one")
	b.check("the other one")
	v := vfs.New(b.f)
	if v.Nodes().Len() != 1 || v.Mkdir("/d") != api.OK || v.Unlink("/d/f") != api.ENOENT {
		t.Error("another one over the same frames has other names")
	}
	id, e := v.Open("/f", makeFlag)
	if e != api.OK || v.Store().Write(id, 0, pattern(100, 1)) != api.OK || b.f.Free() != allFrames-3 {
		t.Errorf("another one over the same frames: %d %d, %d frames are free", id, e, b.f.Free())
	}
	b.free -= 2
	b.check("the other one")
}

// R5: the same calls answer the same, and give frames back in the same order, however often they are played.
func TestSameAgain(t *testing.T) {
	play := func() string {
		b := plant(t)
		b.open("/a/b/c/d/e/f", freshFlag, api.OK)
		b.unlink("/d/f", api.OK)
		b.file("/d/n", 300)
		b.link("/d/n", "/n", api.OK)
		b.open("/n", freshFlag, api.OK)
		return b.state()
	}
	first := play()
	for range 20 {
		if again := play(); again != first {
			t.Fatalf("%q became %q", first, again)
		}
	}
}

// R5: several goroutines, each with a vfs of its own, do not meet.
func TestSeveralGoroutines(t *testing.T) {
	b := plant(t)
	due := b.state()
	all := make([]*both, 8)
	for i := range all {
		all[i] = fresh(t)
	}
	var wait sync.WaitGroup
	for i := range all {
		wait.Go(func() {
			v := all[i].v
			for range 50 {
				v.Mkdir("/d")
				id, _ := v.Open("/d/f", makeFlag)
				v.Store().Write(id, 0, pattern(100+i, i))
				v.Link("/d/f", "/f")
				v.Unlink("/d/f")
				v.Open("/f", freshFlag)
				v.Nodes().Close(id)
				v.Nodes().Close(id)
				v.Unlink("/f")
				v.Rmdir("/d")
			}
		})
	}
	wait.Wait()
	for _, x := range all {
		x.check("behind all")
	}
	if b.state() != due {
		t.Error("one that nobody called has changed")
	}
}

// calls are such as change a vfs, on so few paths that they meet.
func calls() []func(b *both) {
	return []func(b *both){
		func(b *both) { b.open("/a", makeFlag) },
		func(b *both) { b.open("/a", freshFlag) },
		func(b *both) { b.open("/a/b", makeFlag|endFlag) },
		func(b *both) { b.open("/b", makeFlag|freshFlag) },
		func(b *both) { b.mkdir("/a") },
		func(b *both) { b.mkdir("/a/b") },
		func(b *both) { b.mkdir("/a/b/a") },
		func(b *both) { b.link("/a", "/b") },
		func(b *both) { b.link("/b", "/a/b") },
		func(b *both) { b.link("/a/b", "/b") },
		func(b *both) { b.unlink("/a") },
		func(b *both) { b.unlink("/b") },
		func(b *both) { b.unlink("/a/b") },
		func(b *both) { b.rmdir("/a") },
		func(b *both) { b.rmdir("/a/b") },
	}
}

// P22.1 to P22.3: all plays of four calls, closed behind each second one or not at all.
func TestAllShortPlays(t *testing.T) {
	const length = 4
	list := calls()
	plays := 1
	for range length {
		plays *= len(list)
	}
	for play := range plays {
		b := over(t, 1)
		for rest, i := play, 0; i < length; i++ {
			list[rest%len(list)](b)
			rest /= len(list)
			if x := b.k.items[1]; i == 1 && play%2 == 0 && x != nil && x.opens > 0 {
				b.close(1)
			}
		}
		b.check("a short play")
	}
}

// somePath answers a path by draw, at times one that is wrong.
func somePath(draw func(n int) int, names []string) string {
	if draw(40) == 0 {
		return []string{"", "/", "a", "//", "/a/", "/.", "/a/..", "/123456789", "/a\x00", "/a/a/a/a/a/a/a"}[draw(10)]
	}
	s := ""
	for range 1 + min(draw(4), draw(7)) {
		s += "/" + names[draw(len(names))]
	}
	return s
}

// P22.1 to P22.3: long plays by a rule of their own.
func TestLongPlays(t *testing.T) {
	for seed := range 30 {
		draw := rand.New(rand.NewSource(int64(seed))).Intn
		b := over(t, 1+draw(allFrames))
		names := []string{"a", "b", "c", "d", "\xff", "12345678", "...", "e", "f", "g", "h"}[:2+draw(10)]
		for step := range 600 {
			s := somePath(draw, names)
			switch draw(12) {
			case 0, 1, 2:
				b.open(s, draw(9)-draw(2))
			case 3, 4:
				b.mkdir(s)
			case 5, 6:
				b.link(s, somePath(draw, names))
			case 7:
				b.unlink(s)
			case 8:
				b.rmdir(s)
			case 9, 10:
				if id := draw(mostNodes); b.k.items[id] != nil && b.k.items[id].opens > 0 {
					b.close(id)
				}
			default:
				id, n := draw(mostNodes), draw(200)
				if x := b.k.items[id]; x != nil && !x.dir && b.f.Free() > 3 {
					b.write(id, pattern(n, step))
				}
			}
			if step%20 == 0 {
				b.check("a long play")
			}
		}
		b.checkEmptied("a long play")
	}
}

// Very many files and directories, one after the other: what is gone leaves nothing behind.
func TestMany(t *testing.T) {
	const many = 20000
	b := fresh(t)
	b.mkdir("/d", api.OK)
	for range many {
		id, e := b.v.Open("/d/f", makeFlag)
		if id != 2 || e != api.OK || b.v.Store().Write(id, 0, pattern(65, 1)) != api.OK || b.v.Link("/d/f", "/f") != api.OK {
			t.Fatalf("one of many: %d %d", id, e)
		}
		if b.v.Mkdir("/d/e") != api.OK || b.v.Unlink("/d/f") != api.OK || b.v.Rmdir("/d/e") != api.OK || b.v.Unlink("/f") != api.OK || b.v.Nodes().Close(id) != api.OK {
			t.Fatal("one of many")
		}
	}
	b.check("many")
}

// A great path is answered for in a time that its length explains.
func TestGreatPaths(t *testing.T) {
	b := plant(t)
	before := b.state()
	const most = 1 << 22
	for s, want := range map[string]api.Errno{
		strings.Repeat("/a", most):         api.ENAMETOOLONG,
		"/" + strings.Repeat("a", most):    api.ENAMETOOLONG,
		strings.Repeat("/", most):          api.ENOENT,
		strings.Repeat("/a", most) + "/":   api.ENOENT,
		strings.Repeat("/a", most) + "/..": api.EINVAL,
		strings.Repeat("a/", most):         api.EINVAL,
	} {
		_, walk := b.v.Walk(s)
		_, open := b.v.Open(s, makeFlag)
		for what, e := range map[string]api.Errno{
			"Walk": walk, "Open": open, "Mkdir": b.v.Mkdir(s), "Rmdir": b.v.Rmdir(s), "Unlink": b.v.Unlink(s), "Link from": b.v.Link(s, "/n"), "Link to": b.v.Link("/f", s),
		} {
			if e != want {
				t.Errorf("%s of %q..: %d, not %d", what, s[:5], e, want)
			}
		}
	}
	if b.state() != before {
		t.Error("great paths changed something")
	}
}
