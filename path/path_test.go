package path

import (
	"iter"
	"math/rand"
	"slices"
	"strconv"
	"strings"
	"sync"
	"testing"
	"unsafe"

	"coxswain/api"
)

// The chapter's way: names are tested by a function value, and Name is such a one.
var (
	_ func(iter.Seq[string], func(string) api.Errno) api.Errno = wrong
	_ func(string) api.Errno                                   = Name
)

// From the document: bytes of a name, names of a path.
const (
	longest = 8
	deepest = 6
)

// nameOf is what the chapter says of Name, byte by byte.
func nameOf(s string) api.Errno {
	if len(s) == 0 {
		return api.ENOENT
	}
	if len(s) > longest {
		return api.ENAMETOOLONG
	}
	dots := 0
	for i := range len(s) {
		switch s[i] {
		case 47, 0:
			return api.EINVAL
		case 46:
			dots++
		}
	}
	if dots == len(s) && dots <= 2 {
		return api.EINVAL
	}
	return api.OK
}

// firstOf is the first error of nameOf, and behind that too many of them.
func firstOf(names []string) api.Errno {
	for _, s := range names {
		if e := nameOf(s); e != api.OK {
			return e
		}
	}
	if len(names) > deepest {
		return api.ENAMETOOLONG
	}
	return api.OK
}

// piecesOf are the pieces of s between slashes behind its first byte.
func piecesOf(s string) []string {
	var pieces []string
	from := 1
	for i := 1; i <= len(s); i++ {
		if i == len(s) || s[i] == 47 {
			pieces = append(pieces, s[from:i])
			from = i + 1
		}
	}
	return pieces
}

// splitOf is what the chapter says of Split.
func splitOf(s string) ([]string, api.Errno) {
	if len(s) == 0 {
		return nil, api.ENOENT
	}
	if s[0] != 47 {
		return nil, api.EINVAL
	}
	if len(s) == 1 {
		return nil, api.OK
	}
	pieces := piecesOf(s)
	if e := firstOf(pieces); e != api.OK {
		return nil, e
	}
	return pieces, api.OK
}

// joinOf is what the chapter says of Join.
func joinOf(names []string) (string, api.Errno) {
	if e := firstOf(names); e != api.OK {
		return "", e
	}
	if len(names) == 0 {
		return "/", api.OK
	}
	s := ""
	for _, name := range names {
		s += "/" + name
	}
	return s, api.OK
}

// parentOf is what the chapter says of Parent, by the place of the last slash.
func parentOf(s string) (string, string, api.Errno) {
	names, e := splitOf(s)
	if e != api.OK {
		return "", "", e
	}
	if len(names) == 0 {
		return "", "", api.EINVAL
	}
	i := len(s) - 1
	for s[i] != 47 {
		i--
	}
	if i == 0 {
		return "/", s[1:], api.OK
	}
	return s[:i], s[i+1:], api.OK
}

// short is s as far as it is worth telling.
func short(s string) string {
	if len(s) > 200 {
		return strconv.Quote(s[:200]) + ".. of " + strconv.Itoa(len(s))
	}
	return strconv.Quote(s)
}

// wantName holds Name against what is written out.
func wantName(t *testing.T, s string, want api.Errno) {
	t.Helper()
	if e := Name(s); e != want {
		t.Errorf("Name(%s): %d, not %d", short(s), e, want)
	}
}

// wantSplit holds Split against what is written out.
func wantSplit(t *testing.T, s string, want api.Errno, names ...string) {
	t.Helper()
	if got, e := Split(s); e != want || !slices.Equal(got, names) {
		t.Errorf("Split(%s): %q %d, not %q %d", short(s), got, e, names, want)
	}
}

// wantJoin holds Join against what is written out.
func wantJoin(t *testing.T, names []string, s string, want api.Errno) {
	t.Helper()
	if got, e := Join(names); e != want || got != s {
		t.Errorf("Join(%.200q): %q %d, not %q %d", names, got, e, s, want)
	}
}

// wantParent holds Parent against what is written out.
func wantParent(t *testing.T, s string, above string, last string, want api.Errno) {
	t.Helper()
	if a, l, e := Parent(s); e != want || a != above || l != last {
		t.Errorf("Parent(%s): %q %q %d, not %q %q %d", short(s), a, l, e, above, last, want)
	}
}

// check holds all that is told of a text against the chapter written out.
func check(t *testing.T, s string) {
	t.Helper()
	wantName(t, s, nameOf(s))
	names, e := splitOf(s)
	wantSplit(t, s, e, names...)
	above, last, e := parentOf(s)
	wantParent(t, s, above, last, e)
	if t.Failed() {
		t.FailNow()
	}
}

// checkJoin holds Join against the chapter written out.
func checkJoin(t *testing.T, names []string) {
	t.Helper()
	s, e := joinOf(names)
	wantJoin(t, names, s, e)
	if t.Failed() {
		t.FailNow()
	}
}

// each hands on all lists of that many pieces out of those.
func each(many int, out []string, do func(list []string)) {
	list := make([]string, many)
	var from func(i int)
	from = func(i int) {
		if i == many {
			do(list)
			return
		}
		for _, piece := range out {
			list[i] = piece
			from(i + 1)
		}
	}
	from(0)
}

// pathOf is a slash and the piece, for each, whatever the pieces are.
func pathOf(pieces []string) string {
	s := ""
	for _, piece := range pieces {
		s += "/" + piece
	}
	return s
}

// ofNames are that many names, each another one.
func ofNames(many int) []string {
	names := make([]string, many)
	for i := range names {
		names[i] = "n" + strconv.Itoa(i)
	}
	return names
}

// fault is a piece that is no name, and what is told of it.
type fault struct {
	piece string
	code  api.Errno
}

// faults are pieces that are no names, without slashes.
func faults() []fault {
	return []fault{
		{"", api.ENOENT},
		{".", api.EINVAL},
		{"..", api.EINVAL},
		{"\x00", api.EINVAL},
		{"abc\x00", api.EINVAL},
		{"\x00abc", api.EINVAL},
		{"abcdefg\x00", api.EINVAL},
		{"abcdefghi", api.ENAMETOOLONG},
		{".........", api.ENAMETOOLONG},
		{"abcdefgh\x00", api.ENAMETOOLONG},
		{strings.Repeat("x", 1000), api.ENAMETOOLONG},
	}
}

// The chapter's examples.
func TestExamples(t *testing.T) {
	wantSplit(t, "/a/bc", api.OK, "a", "bc")
	wantSplit(t, "a", api.EINVAL)
	wantSplit(t, "/a//b", api.ENOENT)
	wantParent(t, "/a/bc", "/a", "bc", api.OK)
}

// P19.1: Name of no bytes, of one, of MaxName, one less and one more, of far more.
func TestNameOfEachLength(t *testing.T) {
	wantName(t, "", api.ENOENT)
	for n := 1; n <= longest; n++ {
		wantName(t, strings.Repeat("a", n), api.OK)
	}
	for _, n := range []int{9, 10, 15, 16, 17, 63, 64, 65, 255, 256, 257, 264, 1000, 65535, 65536, 65537, 65544, 1 << 20, 1<<20 + 3, 1 << 24} {
		for _, one := range []string{"a", ".", "/", "\x00", "\xff"} {
			wantName(t, strings.Repeat(one, n), api.ENAMETOOLONG)
		}
	}
	for n := range 300 {
		check(t, strings.Repeat("z", n))
	}
}

// P19.1: Name with each byte at each place of each length: a slash and a byte 0 may not be, all others may.
func TestNameOfEachByte(t *testing.T) {
	for n := 1; n <= longest+3; n++ {
		for place := range n {
			for x := range 256 {
				b := []byte(strings.Repeat("m", n))
				b[place] = byte(x)
				want := api.OK
				switch {
				case n > longest:
					want = api.ENAMETOOLONG
				case x == '/' || x == 0 || n == 1 && x == '.':
					want = api.EINVAL
				}
				wantName(t, string(b), want)
			}
		}
	}
}

// P19.1: '.' and '..' are no names; what only begins or ends so is one, and so are three dots and more.
func TestNameOfDots(t *testing.T) {
	for _, s := range []string{".", ".."} {
		wantName(t, s, api.EINVAL)
	}
	for n := 3; n <= longest; n++ {
		wantName(t, strings.Repeat(".", n), api.OK)
	}
	wantName(t, ".........", api.ENAMETOOLONG)
	for x := 1; x < 256; x++ {
		if x == '.' || x == '/' {
			continue
		}
		one := string([]byte{byte(x)})
		for _, s := range []string{"." + one, one + ".", ".." + one, one + "..", "." + one + ".", ".." + one + ".."} {
			wantName(t, s, api.OK)
		}
	}
	for _, s := range []string{"./", "/.", "../", "/..", ".\x00", "\x00.", "..\x00", "\x00..", "./.", ".\x00."} {
		wantName(t, s, api.EINVAL)
	}
}

// P19.1: Name counts bytes, not runes, and takes any of them: above 127, runes and none, blanks, ends of lines.
func TestNameOfStrangeBytes(t *testing.T) {
	for _, s := range []string{
		" ", "\n", "\t", "\r\n", "\x01", "\x7f", "\x80", "\xff", "\xc0\xaf", "\xc0\x80", "\xe0\x80\xaf", "\xef\xbf\xbd", "\xed\xa0\x80",
		"\u00e4", "\u2215", "\u2044", "\uff0f", "\u2024", "\u2025", "\u2024\u2024", "\U0001f6a2", "\U0001f6a2\U0001f6a2", "\u00e4\u00e4\u00e4\u00e4",
		"\\", "\\0", "%2f", "a b", "*", "\"", "'", "~", "-", "C:", "\xff\xff\xff\xff\xff\xff\xff\xff",
	} {
		wantName(t, s, api.OK)
	}
	for _, s := range []string{"\u00e4\u00e4\u00e4\u00e4x", "\u2215\u2215\u2215", "\U0001f6a2\U0001f6a2\x80", "\xff\xff\xff\xff\xff\xff\xff\xff\xff"} {
		wantName(t, s, api.ENAMETOOLONG)
	}
	for _, s := range []string{"\xff/", "/\xff", "\xff\x00", "\x00\xff", "\u00e4/\u00e4", "\xc3/\xa4", "\xe2\x88\x00", "\U0001f6a2/", "\U0001f6a2\x00"} {
		wantName(t, s, api.EINVAL)
	}
}

// P19.1: a text that is both too long and no name is told to be too long, wherever it is no name.
func TestNameTooLongAndNone(t *testing.T) {
	for _, n := range []int{longest, longest + 1, longest + 2, 100} {
		for place := range n {
			for _, x := range []byte{'/', 0} {
				b := []byte(strings.Repeat("k", n))
				b[place] = x
				want := api.ENAMETOOLONG
				if n == longest {
					want = api.EINVAL
				}
				wantName(t, string(b), want)
			}
		}
	}
}

// P19.1: Name of all texts of one and two bytes.
func TestNameOfAllShortTexts(t *testing.T) {
	for x := range 256 {
		check(t, string([]byte{byte(x)}))
		for y := range 256 {
			check(t, string([]byte{byte(x), byte(y)}))
		}
	}
}

// P19.1: all texts of up to nine bytes, out of those that count.
func TestAllTextsOfSomeBytes(t *testing.T) {
	bytes := []string{"/", ".", "a", "\x00"}
	for n := range longest + 2 {
		each(n, bytes, func(list []string) { check(t, strings.Join(list, "")) })
	}
	for n := range 13 {
		each(n, []string{"/", "b"}, func(list []string) { check(t, strings.Join(list, "")) })
	}
	for n := range 9 {
		each(n, []string{"/", ".", "\xff"}, func(list []string) { check(t, "/"+strings.Join(list, "")) })
	}
}

// P19.1: Split of no bytes, of '/' alone, of slashes alone.
func TestSplitOfSlashes(t *testing.T) {
	wantSplit(t, "", api.ENOENT)
	wantSplit(t, "/", api.OK)
	for _, n := range []int{2, 3, 4, 7, 8, 9, 10, 100} {
		wantSplit(t, strings.Repeat("/", n), api.ENOENT)
	}
}

// P19.1: Split of what does not begin with a slash, whatever is behind.
func TestSplitWithoutASlashAhead(t *testing.T) {
	for x := range 256 {
		if x == '/' {
			continue
		}
		one := string([]byte{byte(x)})
		for _, behind := range []string{"", "/", "//", "/a", "a/b", "/a/b/", "abcdefghi", "/abcdefghi", "/a/b/c/d/e/f", "/a/b/c/d/e/f/g", "/./..", "\x00", "."} {
			wantSplit(t, one+behind, api.EINVAL)
		}
	}
	for _, s := range []string{" /a", "\n/a", "./a", "../a", "\x00/a", "\\/a", "\u2215a", "a", "abcdefgh", "abcdefghi/", strings.Repeat("a", 1000)} {
		wantSplit(t, s, api.EINVAL)
	}
}

// P19.1: Split of one name and of several, up to MaxDepth.
func TestSplitOfNames(t *testing.T) {
	wantSplit(t, "/a", api.OK, "a")
	wantSplit(t, "/abcdefgh", api.OK, "abcdefgh")
	wantSplit(t, "/...", api.OK, "...")
	wantSplit(t, "/.a/b./..c/d..", api.OK, ".a", "b.", "..c", "d..")
	wantSplit(t, "/\xff/ /\n/\x80\x81", api.OK, "\xff", " ", "\n", "\x80\x81")
	wantSplit(t, "/a/a/a", api.OK, "a", "a", "a")
	wantSplit(t, "/c/b/a", api.OK, "c", "b", "a")
	wantSplit(t, "/a/bc/def/ghij/klmno/pqrstu", api.OK, "a", "bc", "def", "ghij", "klmno", "pqrstu")
	full := []string{"aaaaaaaa", "bbbbbbbb", "cccccccc", "dddddddd", "eeeeeeee", "ffffffff"}
	for n := 1; n <= deepest; n++ {
		wantSplit(t, pathOf(full[:n]), api.OK, full[:n]...)
	}
}

// P19.1: Split with a slash at the end: an empty piece, behind any number of names.
func TestSplitWithASlashAtTheEnd(t *testing.T) {
	for n := 1; n <= 20; n++ {
		wantSplit(t, pathOf(ofNames(n))+"/", api.ENOENT)
	}
	wantSplit(t, "/abcdefgh/", api.ENOENT)
	wantSplit(t, "/abcdefghi/", api.ENAMETOOLONG)
	wantSplit(t, "/./", api.EINVAL)
}

// P19.1: Split with two slashes side by side, at each place.
func TestSplitWithTwoSlashes(t *testing.T) {
	for n := 1; n <= 10; n++ {
		names := ofNames(n)
		for place := range n {
			pieces := slices.Insert(slices.Clone(names), place, "")
			wantSplit(t, pathOf(pieces), api.ENOENT)
			pieces = slices.Insert(pieces, place, "")
			wantSplit(t, pathOf(pieces), api.ENOENT)
		}
	}
}

// P19.1: Split and Join with a name that may not be at each place, of as many as may be, fewer and more.
func TestOneThatIsNoName(t *testing.T) {
	for n := 1; n <= 10; n++ {
		for place := range n {
			for _, f := range faults() {
				pieces := ofNames(n)
				pieces[place] = f.piece
				if n == 1 && f.piece == "" {
					wantSplit(t, pathOf(pieces), api.OK)
				} else {
					wantSplit(t, pathOf(pieces), f.code)
					wantParent(t, pathOf(pieces), "", "", f.code)
				}
				wantJoin(t, pieces, "", f.code)
			}
		}
	}
}

// P19.1: Split and Join with two names that may not be, at each two places: the first one's error.
func TestTwoThatAreNoNames(t *testing.T) {
	for _, n := range []int{2, 3, deepest, deepest + 1, 9} {
		for j := range n {
			for i := range j {
				for _, f := range faults() {
					for _, g := range faults() {
						pieces := ofNames(n)
						pieces[i], pieces[j] = f.piece, g.piece
						wantSplit(t, pathOf(pieces), f.code)
						wantParent(t, pathOf(pieces), "", "", f.code)
						wantJoin(t, pieces, "", f.code)
					}
				}
			}
		}
	}
}

// P19.1: Split, Join and Parent of MaxDepth names, one less and one more, of far more.
func TestDepths(t *testing.T) {
	for _, names := range [][]string{ofNames(1000), slices.Repeat([]string{"a"}, 1000), slices.Repeat([]string{"abcdefgh"}, 1000)} {
		for _, n := range []int{1, 2, 3, 4, 5, 6, 7, 8, 9, 12, 13, 255, 256, 257, 262, 263, 1000} {
			s := pathOf(names[:n])
			if n <= deepest {
				wantSplit(t, s, api.OK, names[:n]...)
				wantJoin(t, names[:n], s, api.OK)
			} else {
				wantSplit(t, s, api.ENAMETOOLONG)
				wantJoin(t, names[:n], "", api.ENAMETOOLONG)
				wantParent(t, s, "", "", api.ENAMETOOLONG)
			}
		}
	}
}

// P19.1: of too many names one of which may not be the error is that one's, far behind too.
func TestTooManyAndOneThatIsNoName(t *testing.T) {
	for _, n := range []int{deepest + 1, deepest + 2, 20, 300} {
		for _, place := range []int{0, 1, deepest - 1, deepest, n - 2, n - 1} {
			for _, f := range faults() {
				pieces := ofNames(n)
				pieces[place] = f.piece
				wantSplit(t, pathOf(pieces), f.code)
				wantParent(t, pathOf(pieces), "", "", f.code)
				wantJoin(t, pieces, "", f.code)
			}
		}
	}
}

// P19.1: Join of none: the root.
func TestJoinOfNone(t *testing.T) {
	wantJoin(t, nil, "/", api.OK)
	wantJoin(t, []string{}, "/", api.OK)
	wantJoin(t, make([]string, 0, 5), "/", api.OK)
	wantJoin(t, []string{""}, "", api.ENOENT)
}

// P19.1: Join of one name and of several, in their order.
func TestJoinOfNames(t *testing.T) {
	wantJoin(t, []string{"a"}, "/a", api.OK)
	wantJoin(t, []string{"a", "bc"}, "/a/bc", api.OK)
	wantJoin(t, []string{"bc", "a"}, "/bc/a", api.OK)
	wantJoin(t, []string{"...", ".a", "b."}, "/.../.a/b.", api.OK)
	wantJoin(t, []string{"\xff", "\n", " "}, "/\xff/\n/ ", api.OK)
	wantJoin(t, []string{"x", "x", "x", "x", "x", "x"}, "/x/x/x/x/x/x", api.OK)
	wantJoin(t, []string{"abcdefgh", "abcdefgh", "abcdefgh", "abcdefgh", "abcdefgh", "abcdefgh"}, strings.Repeat("/abcdefgh", 6), api.OK)
}

// P19.1: Join takes names alone: what has a slash in it is none, though it is a path or a piece of one.
func TestJoinOfPaths(t *testing.T) {
	for n := 1; n <= 8; n++ {
		for place := range n {
			for _, s := range []string{"/", "//", "/a", "a/", "a/b", "/a/b", "a/b/c/d", "/.", "../a"} {
				names := ofNames(n)
				names[place] = s
				wantJoin(t, names, "", api.EINVAL)
			}
			names := ofNames(n)
			names[place] = "/abcdefgh"
			wantJoin(t, names, "", api.ENAMETOOLONG)
		}
	}
}

// P19.1: Parent of what Split refuses is Split's error, of '/' EINVAL.
func TestParentOfWhatIsRefused(t *testing.T) {
	wantParent(t, "", "", "", api.ENOENT)
	wantParent(t, "/", "", "", api.EINVAL)
	wantParent(t, "//", "", "", api.ENOENT)
	wantParent(t, "a", "", "", api.EINVAL)
	wantParent(t, "a/b", "", "", api.EINVAL)
	wantParent(t, "/a/", "", "", api.ENOENT)
	wantParent(t, "//a", "", "", api.ENOENT)
	wantParent(t, "/a//b", "", "", api.ENOENT)
	wantParent(t, "/.", "", "", api.EINVAL)
	wantParent(t, "/a/..", "", "", api.EINVAL)
	wantParent(t, "/a/b\x00", "", "", api.EINVAL)
	wantParent(t, "/abcdefghi", "", "", api.ENAMETOOLONG)
	wantParent(t, "/a/abcdefghi", "", "", api.ENAMETOOLONG)
	wantParent(t, "/abcdefghi/a", "", "", api.ENAMETOOLONG)
	wantParent(t, "/a/b/c/d/e/f/g", "", "", api.ENAMETOOLONG)
	wantParent(t, "/a/b/c/d/e/f/g/", "", "", api.ENOENT)
}

// P19.1: Parent of one name is the root and that name, of several the path of all but the last one, and that.
func TestParentOfNames(t *testing.T) {
	wantParent(t, "/a", "/", "a", api.OK)
	wantParent(t, "/abcdefgh", "/", "abcdefgh", api.OK)
	wantParent(t, "/...", "/", "...", api.OK)
	wantParent(t, "/a/b", "/a", "b", api.OK)
	wantParent(t, "/b/a", "/b", "a", api.OK)
	wantParent(t, "/a/a", "/a", "a", api.OK)
	wantParent(t, "/a/b/c", "/a/b", "c", api.OK)
	wantParent(t, "/a/b/c/d/e/f", "/a/b/c/d/e", "f", api.OK)
	wantParent(t, "/\xff/\x80", "/\xff", "\x80", api.OK)
	wantParent(t, strings.Repeat("/abcdefgh", 6), strings.Repeat("/abcdefgh", 5), "abcdefgh", api.OK)
}

// tokens are pieces that are names, and such as are none.
func tokens() []string {
	return []string{"a", "abcdefgh", "...", "\xff\n", "", ".", "..", "\x00", "abcdefghi"}
}

// P19.1: all calls of all lists of up to four pieces, and of many longer ones.
func TestAllLists(t *testing.T) {
	for n := range 5 {
		each(n, tokens(), func(list []string) {
			checkJoin(t, list)
			check(t, pathOf(list))
		})
	}
	for n := range 9 {
		each(n, []string{"b", ""}, func(list []string) {
			checkJoin(t, list)
			check(t, pathOf(list))
		})
	}
	random := rand.New(rand.NewSource(19))
	for range 20000 {
		list := make([]string, random.Intn(10))
		for i := range list {
			// Mostly names, as else the first error would hide all that is behind.
			list[i] = tokens()[random.Intn(4)]
			if random.Intn(12) == 0 {
				list[i] = tokens()[random.Intn(len(tokens()))]
			}
		}
		checkJoin(t, list)
		check(t, pathOf(list))
	}
}

// randomName is a name of any bytes that it may have.
func randomName(random *rand.Rand) string {
	for {
		b := make([]byte, 1+random.Intn(longest))
		for i := range b {
			b[i] = byte(random.Intn(256))
			if random.Intn(4) == 0 {
				b[i] = '.'
			}
		}
		if nameOf(string(b)) == api.OK {
			return string(b)
		}
	}
}

// there takes names there and back, and says what their path is.
func there(t *testing.T, names []string) string {
	t.Helper()
	s, e := Join(names)
	if e != api.OK {
		t.Fatalf("Join(%q): %d", names, e)
	}
	back, e := Split(s)
	if e != api.OK || !slices.Equal(back, names) {
		t.Fatalf("Split(Join(%q)): %q %d", names, back, e)
	}
	return s
}

// back takes a path there and back, if Split takes it, and says its names.
func back(t *testing.T, s string) ([]string, bool) {
	t.Helper()
	names, e := Split(s)
	if e != api.OK {
		return nil, false
	}
	if again, e := Join(names); e != api.OK || again != s {
		t.Fatalf("Join(Split(%q)): %q %d", s, again, e)
	}
	return names, true
}

// climb goes up from a path to the root: what is above it and its last name are that path.
func climb(t *testing.T, s string) {
	t.Helper()
	names, ok := back(t, s)
	if !ok {
		t.Fatalf("Split(%q) refuses", s)
	}
	for i := len(names); i > 0; i-- {
		above, last, e := Parent(s)
		if e != api.OK || last != names[i-1] {
			t.Fatalf("Parent(%q): %q %q %d", s, above, last, e)
		}
		upper, ok := back(t, above)
		if !ok || !slices.Equal(upper, names[:i-1]) {
			t.Fatalf("Parent(%q): above are %q", s, upper)
		}
		if again := there(t, append(upper, last)); again != s {
			t.Fatalf("Parent(%q): put together %q", s, again)
		}
		s = above
	}
	wantSplit(t, s, api.OK)
	wantParent(t, s, "", "", api.EINVAL)
}

// P19.2: what was put together is taken apart again, and what is above a path and its last name are that path, over many lists of names.
func TestThereAndBack(t *testing.T) {
	climb(t, there(t, nil))
	for n := range deepest + 1 {
		climb(t, there(t, ofNames(n)))
	}
	for n := range 5 {
		each(n, tokens()[:4], func(list []string) { climb(t, there(t, list)) })
	}
	random := rand.New(rand.NewSource(1))
	for range 20000 {
		names := make([]string, random.Intn(deepest+1))
		for i := range names {
			names[i] = randomName(random)
		}
		climb(t, there(t, names))
	}
}

// P19.2: what was taken apart is put together again, over all texts of some bytes, and many more; of those that are refused nothing is taken apart.
func TestBackAndThere(t *testing.T) {
	taken := 0
	try := func(s string) {
		if _, ok := back(t, s); ok {
			taken++
			climb(t, s)
		}
	}
	for n := range 10 {
		each(n, []string{"/", ".", "a", "\x00"}, func(list []string) { try(strings.Join(list, "")) })
	}
	for n := range 14 {
		each(n, []string{"/", "b"}, func(list []string) { try("/" + strings.Join(list, "")) })
	}
	random := rand.New(rand.NewSource(2))
	for range 50000 {
		b := make([]byte, 1+random.Intn(40))
		for i := range b {
			b[i] = byte(1 + random.Intn(255))
			if random.Intn(6) == 0 {
				b[i] = '/'
			}
		}
		b[0] = '/'
		try(string(b))
	}
	if taken < 10000 {
		t.Errorf("only %d paths", taken)
	}
}

// P19.2: two lists of names have two paths, and two paths two lists.
func TestEachItsOwn(t *testing.T) {
	paths := map[string]string{}
	for n := range deepest + 1 {
		each(n, []string{"a", "b", "ab"}, func(list []string) {
			s := there(t, list)
			told := strings.Join(list, ",")
			if other, ok := paths[s]; ok {
				t.Fatalf("%q is the path of %q and of %q", s, told, other)
			}
			paths[s] = told
		})
	}
}

// over is a text that stands in b.
func over(b []byte) string { return unsafe.String(unsafe.SliceData(b), len(b)) }

// share says whether two texts have bytes in common, as far as they have any.
func share(s string, u string) bool {
	a, b := uintptr(unsafe.Pointer(unsafe.StringData(s))), uintptr(unsafe.Pointer(unsafe.StringData(u)))
	return len(s) > 0 && len(u) > 0 && a < b+uintptr(len(u)) && b < a+uintptr(len(s))
}

// texts are paths, and such as are refused.
func texts() []string {
	return []string{
		"/", "/a", "/a/b", "/a/bc/def", "/a/b/c/d/e/f", strings.Repeat("/abcdefgh", 6), "/\xff/..x",
		"a", "/a//b", "/a/", "/abcdefghi", "/a/b/c/d/e/f/g", "/a/.", "abcdefgh", strings.Repeat("/a", 100),
	}
}

// R4: a text that comes in is not changed, nor what stands behind it, and not looked at beyond its end.
func TestTextsStay(t *testing.T) {
	for _, s := range texts() {
		for _, behind := range []string{"/", "x", "/x/y/", "//", "\x00\x00"} {
			room := []byte(s + behind)
			check(t, over(room[:len(s)]))
			if string(room) != s+behind {
				t.Errorf("%q: there stands %q", s+behind, room)
			}
		}
	}
}

// R4: what is answered stands when a text that came in is written over.
func TestTextsAreNotKept(t *testing.T) {
	for _, s := range texts() {
		room := []byte(s)
		names, e := Split(over(room))
		above, last, f := Parent(over(room))
		for i := range room {
			room[i] = 'Z'
		}
		wanted, g := splitOf(s)
		if e != g || !slices.Equal(names, wanted) {
			t.Errorf("Split(%q), written over: %q %d", s, names, e)
		}
		a, l, g := parentOf(s)
		if f != g || above != a || last != l {
			t.Errorf("Parent(%q), written over: %q %q %d", s, above, last, f)
		}
		if t.Failed() {
			return
		}
		check(t, s)
	}
}

// R4: the names that come in are not changed, their spare room neither, and that is not looked at.
func TestListsStay(t *testing.T) {
	for n := range deepest + 3 {
		for _, behind := range []string{"x", "", "..", "abcdefghi"} {
			room := append(ofNames(n), behind, behind, behind, behind)
			kept := slices.Clone(room)
			checkJoin(t, room[:n])
			checkJoin(t, room[:n:n])
			if !slices.Equal(room, kept) {
				t.Errorf("Join(%q): there stand %q", kept[:n], room)
			}
		}
	}
	for _, f := range faults() {
		room := []string{"a", f.piece, "b", f.piece, "c"}
		kept := slices.Clone(room)
		for n := range len(room) {
			checkJoin(t, room[:n])
		}
		if !slices.Equal(room, kept) {
			t.Errorf("of %q stand %q", kept, room)
		}
	}
}

// R4: what Join answered stands when the names that came in are written over, their bytes too.
func TestListsAreNotKept(t *testing.T) {
	for n := range deepest + 1 {
		var rooms [][]byte
		var names []string
		for _, name := range ofNames(n) {
			room := []byte(name)
			rooms, names = append(rooms, room), append(names, over(room))
		}
		s, e := Join(names)
		for i, room := range rooms {
			for k := range room {
				room[k] = 'Z'
			}
			names[i] = ""
		}
		want, f := joinOf(ofNames(n))
		if e != f || s != want {
			t.Errorf("Join(%q), written over: %q %d", ofNames(n), s, e)
		}
	}
}

// R4: what is answered has no bytes in common with what came in, nor with another answer; nor has one part of it with another.
func TestAnswersAreNew(t *testing.T) {
	for _, s := range []string{"/a", "/abcdefgh", "/a/b", "/a/bc/def", "/a/b/c/d/e/f", strings.Repeat("/abcdefgh", 6)} {
		one, _ := Split(s)
		two, _ := Split(s)
		all := append(append([]string{s}, one...), two...)
		above, last, _ := Parent(s)
		if len(one) > 1 { // else it is the root, which is never another text
			all = append(all, above)
		}
		all = append(all, last)
		for range 2 {
			again, _ := Join(one)
			all = append(all, again)
		}
		for i := range all {
			for k := range i {
				if share(all[i], all[k]) {
					t.Errorf("of %q: %q and %q share bytes", s, all[i], all[k])
				}
			}
		}
	}
}

// R4: a list that was answered may be written over, its spare room too, without another answer being changed.
func TestListsAreNew(t *testing.T) {
	for _, s := range texts() {
		one, _ := Split(s)
		two, _ := Split(s)
		for i := range one[:cap(one)] {
			one[:cap(one)][i] = "Z"
		}
		wanted, _ := splitOf(s)
		if !slices.Equal(two, wanted) {
			t.Errorf("Split(%q): %q, behind another one that was written over", s, two)
		}
		check(t, s)
	}
}

// R5: what is answered hangs on the arguments alone, in whatever order and from however many goroutines it is asked.
func TestAskedAtOneTime(t *testing.T) {
	list := ofNames(deepest)
	want := pathOf(list)
	var all sync.WaitGroup
	for i := range 8 {
		all.Add(1)
		go func() {
			defer all.Done()
			for k := range 300 {
				s := texts()[(i+k)%len(texts())]
				names, e := Split(s)
				wanted, f := splitOf(s)
				if e != f || !slices.Equal(names, wanted) {
					t.Errorf("Split(%q): %q %d", s, names, e)
				}
				above, last, e := Parent(s)
				if a, l, f := parentOf(s); e != f || above != a || last != l {
					t.Errorf("Parent(%q): %q %q %d", s, above, last, e)
				}
				if e := Name(s); e != nameOf(s) {
					t.Errorf("Name(%q): %d", s, e)
				}
				if got, e := Join(list); e != api.OK || got != want {
					t.Errorf("Join(%q): %q %d", list, got, e)
				}
			}
		}()
	}
	all.Wait()
}

// R1: great texts and great lists are looked at once, and none of what is too much of them is kept.
func TestSizes(t *testing.T) {
	const many = 1 << 22
	great := strings.Repeat("/a", many)
	list := slices.Repeat([]string{"abcdefgh"}, many)
	for _, x := range []struct {
		s    string
		want api.Errno
	}{
		{great, api.ENAMETOOLONG},
		{great + "/", api.ENOENT},
		{great + "/.", api.EINVAL},
		{great + "/abcdefghi", api.ENAMETOOLONG},
		{great[1:], api.EINVAL},
		{strings.Repeat("/", many), api.ENOENT},
		{"/" + strings.Repeat("a", many), api.ENAMETOOLONG},
		{"/a/" + strings.Repeat("\x00", many), api.ENAMETOOLONG},
	} {
		wantSplit(t, x.s, x.want)
		wantParent(t, x.s, "", "", x.want)
		if made := testing.AllocsPerRun(1, func() { Split(x.s) }); made > 100 {
			t.Errorf("Split(%s): %f times memory", short(x.s), made)
		}
	}
	wantJoin(t, list, "", api.ENAMETOOLONG)
	list[many-1] = "."
	wantJoin(t, list, "", api.EINVAL)
	list[0] = great
	wantJoin(t, list, "", api.ENAMETOOLONG)
}
