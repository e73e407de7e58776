package prog

import (
	"math"
	"slices"
	"strings"
	"sync"
	"testing"

	"coxswain/api"
)

// The chapter's way: forms are functions that are handed on as values.
var (
	_ func(int) form[api.Op]              = stepForm
	_ func(int) form[api.Call]            = callForm
	_ func(api.Op, form[api.Op]) bool     = has[api.Op]
	_ func(api.Call, form[api.Call]) bool = has[api.Call]
)

// span is the least and the greatest number that may be; of what is not named 0 and 0.
type span [2]int

func (s span) has(x int) bool { return s[0] <= x && x <= s[1] }

// edges are the bounds, and one past each.
func (s span) edges() []int { return []int{s[0] - 1, s[0], s[1], s[1] + 1} }

// stepRow is what the document says of a kind of step; of OpCall what it says beside the call.
type stepRow struct {
	kind    int
	a, b, c span
}

func (r stepRow) allows(o api.Op) bool {
	return r.kind == o.Kind && r.a.has(o.A) && r.b.has(o.B) && r.c.has(o.C)
}

// stepRows are the document's words, with its limits in numbers.
func stepRows() []stepRow {
	return []stepRow{
		{kind: api.OpNop},
		{kind: api.OpDone},
		{kind: api.OpMark},
		{kind: api.OpWork, a: span{1, 1000}},
		{kind: api.OpSleep, a: span{1, 1000}},
		{kind: api.OpLock, a: span{0, 5}},
		{kind: api.OpUnlock, a: span{0, 5}},
		{kind: api.OpJump, a: span{0, 39}},
		{kind: api.OpWait, a: span{0, 3}, b: span{0, 5}, c: span{0, 1000}},
		{kind: api.OpSignal, a: span{0, 3}},
		{kind: api.OpCall},
	}
}

// callRow is what the document says of a Sys; s and t are how many bytes the texts have at most.
type callRow struct {
	sys  int
	a, b span
	s, t int
}

func (r callRow) allows(c api.Call) bool {
	return r.sys == c.Sys && r.a.has(c.A) && r.b.has(c.B) && len(c.S) <= r.s && len(c.T) <= r.t
}

// callRows are the document's table, with its limits in numbers.
func callRows() []callRow {
	return []callRow{
		{sys: api.SysOpen, s: 100, a: span{0, 7}},
		{sys: api.SysClose, a: span{0, 7}},
		{sys: api.SysDup, a: span{0, 7}},
		{sys: api.SysRead, a: span{0, 7}, b: span{0, 512}},
		{sys: api.SysWrite, a: span{0, 7}, s: 512},
		{sys: api.SysSeek, a: span{0, 7}, b: span{0, 512}},
		{sys: api.SysLink, s: 100, t: 100},
		{sys: api.SysUnlink, s: 100},
		{sys: api.SysMkdir, s: 100},
		{sys: api.SysRmdir, s: 100},
		{sys: api.SysStat, s: 100},
		{sys: api.SysList, s: 100},
		{sys: api.SysPipe},
		{sys: api.SysChild},
		{sys: api.SysPid},
		{sys: api.SysFork, a: span{0, 39}},
		{sys: api.SysExit, a: span{0, 255}},
	}
}

// mayCall is what MayCall is due to answer.
func mayCall(c api.Call) bool {
	return slices.ContainsFunc(callRows(), func(r callRow) bool { return r.allows(c) })
}

// may is what May is due to answer.
func may(o api.Op) bool {
	if o.Kind == api.OpCall {
		return o.A == 0 && o.B == 0 && o.C == 0 && mayCall(o.Call)
	}
	return o.Call == api.Call{} && slices.ContainsFunc(stepRows(), func(r stepRow) bool { return r.allows(o) })
}

// numbers are all bounds with what lies beside them, and numbers that would lie within if their higher bits or their sign were lost.
func numbers() []int {
	list := []int{
		math.MinInt, math.MinInt + 1, math.MinInt + 3, -1 << 40, -1<<32 + 1, -1 << 32, -1 << 16, -1001, -1000, -512, -255, -253, -39, -7, -3, -2, -1,
		1 << 15, 1<<16 + 1, 1 << 31, 1 << 32, 1<<32 + 1, 1<<32 + 3, 1 << 40, math.MaxInt - 1, math.MaxInt,
	}
	for _, edge := range []int{1, 3, 5, 7, 39, 255, 512, 1000} {
		list = append(list, edge-1, edge, edge+1)
	}
	slices.Sort(list)
	return slices.Compact(list)
}

// strangeKinds are kinds of steps and Syses that the document does not name, and such as would be one if their higher bits or their sign were lost.
func strangeKinds(last int) []int {
	list := []int{
		math.MinInt, math.MinInt + 1, math.MinInt + 10, -1 << 32, -1<<32 + 1, -1<<16 + 4, -256, -255, -17, -10, -2, -1,
		255, 256, 257, 266, 273, 1 << 16, 1<<16 + 1, 1 << 32, 1<<32 + 1, 1<<32 + 10, 1<<32 + 17, math.MaxInt - 1, math.MaxInt,
	}
	for k := 1; k <= 20; k++ {
		list = append(list, last+k)
	}
	return list
}

// text answers size bytes.
func text(size int) string { return strings.Repeat("a", size) }

// good are calls that may be, of each Sys with all that is named at its least and at its greatest.
func good() []api.Call {
	list := []api.Call{}
	for _, r := range callRows() {
		list = append(list, api.Call{Sys: r.sys, A: r.a[0], B: r.b[0]})
		list = append(list, api.Call{Sys: r.sys, A: r.a[1], B: r.b[1], S: text(r.s), T: text(r.t)})
	}
	return list
}

// goodSteps are steps that may be, of each kind likewise.
func goodSteps() []api.Op {
	list := []api.Op{}
	for _, r := range stepRows() {
		if r.kind != api.OpCall {
			list = append(list, api.Op{Kind: r.kind, A: r.a[0], B: r.b[0], C: r.c[0]}, api.Op{Kind: r.kind, A: r.a[1], B: r.b[1], C: r.c[1]})
		}
	}
	for _, c := range good() {
		list = append(list, api.Op{Kind: api.OpCall, Call: c})
	}
	return list
}

// badSteps are steps that may not be, each for one reason alone.
func badSteps() []api.Op {
	return []api.Op{
		{Kind: -1}, {Kind: 11}, {Kind: math.MaxInt}, {A: 1}, {B: -1}, {C: 1}, {Call: api.Call{S: "x"}},
		{Kind: api.OpWork}, {Kind: api.OpWork, A: 1001}, {Kind: api.OpSleep, A: -1}, {Kind: api.OpSleep, A: 1, B: 1},
		{Kind: api.OpLock, A: 6}, {Kind: api.OpUnlock, A: -1}, {Kind: api.OpDone, A: 1}, {Kind: api.OpMark, C: -1},
		{Kind: api.OpJump, A: 40}, {Kind: api.OpWait, A: 4}, {Kind: api.OpWait, B: 6}, {Kind: api.OpWait, C: 1001}, {Kind: api.OpSignal, A: 4},
		{Kind: api.OpCall}, {Kind: api.OpCall, A: 1, Call: api.Call{Sys: api.SysPid}}, {Kind: api.OpCall, Call: api.Call{Sys: 18}},
		{Kind: api.OpCall, Call: api.Call{Sys: api.SysOpen, S: text(101)}}, {Kind: api.OpLock, Call: api.Call{Sys: api.SysPid}},
	}
}

// mixed answers size steps: such as may be and such as may not by turns, in an order that shift changes.
func mixed(size int, shift int) []api.Op {
	fine, bad := goodSteps(), badSteps()
	list := make([]api.Op, size)
	for k := range list {
		if (k+shift)%3 == 0 {
			list[k] = bad[(k*5+shift)%len(bad)]
		} else {
			list[k] = fine[(k*7+shift)%len(fine)]
		}
	}
	return list
}

// fixed is what Fix is due to answer.
func fixed(list []api.Op) []api.Op {
	answer := []api.Op{}
	for k, o := range list {
		if k == 40 {
			break
		}
		if !may(o) {
			o = api.Op{}
		}
		answer = append(answer, o)
	}
	return answer
}

// checkCall holds MayCall of c against due, and May of the step that makes it.
func checkCall(t *testing.T, c api.Call, due bool) {
	t.Helper()
	if got := MayCall(c); got != due {
		t.Errorf("MayCall of Sys %d, A %d, B %d, %d and %d bytes: %t", c.Sys, c.A, c.B, len(c.S), len(c.T), got)
	}
	if got := May(api.Op{Kind: api.OpCall, Call: c}); got != due {
		t.Errorf("May of a call of Sys %d, A %d, B %d, %d and %d bytes: %t", c.Sys, c.A, c.B, len(c.S), len(c.T), got)
	}
}

func checkStep(t *testing.T, o api.Op, due bool) {
	t.Helper()
	if got := May(o); got != due {
		t.Errorf("May(%v): %t", o, got)
	}
}

// P9.1: the document's examples.
func TestExamples(t *testing.T) {
	if May(api.Op{Kind: api.OpWork, A: 0}) {
		t.Error("May({OpWork, A 0}): true")
	}
	got := Fix([]api.Op{{Kind: api.OpWork, A: 0}, {Kind: api.OpLock, A: 2}})
	if !slices.Equal(got, []api.Op{{Kind: api.OpNop}, {Kind: api.OpLock, A: 2}}) {
		t.Errorf("Fix({OpWork, A 0}, {OpLock, A 2}): %v", got)
	}
}

// The tests' own lists are what their names say.
func TestLists(t *testing.T) {
	for _, o := range goodSteps() {
		if !may(o) {
			t.Errorf("%v is none that may be", o)
		}
	}
	for _, o := range badSteps() {
		if may(o) {
			t.Errorf("%v is one that may be", o)
		}
	}
}

// P9.1: May, of each kind but OpCall, with what is named at each bound and one past it.
func TestMayAtBounds(t *testing.T) {
	for _, r := range stepRows() {
		for _, a := range r.a.edges() {
			for _, b := range r.b.edges() {
				for _, c := range r.c.edges() {
					o := api.Op{Kind: r.kind, A: a, B: b, C: c}
					checkStep(t, o, r.kind != api.OpCall && r.a.has(a) && r.b.has(b) && r.c.has(c))
				}
			}
		}
	}
}

// P9.1: May, of each kind with all of one number that may be.
func TestMayWithin(t *testing.T) {
	for _, r := range stepRows() {
		if r.kind == api.OpCall {
			continue
		}
		for a := r.a[0]; a <= r.a[1]; a++ {
			checkStep(t, api.Op{Kind: r.kind, A: a}, true)
		}
		for b := r.b[0]; b <= r.b[1]; b++ {
			checkStep(t, api.Op{Kind: r.kind, A: r.a[1], B: b, C: r.c[1]}, true)
		}
		for c := r.c[0]; c <= r.c[1]; c++ {
			checkStep(t, api.Op{Kind: r.kind, A: r.a[1], B: r.b[1], C: c}, true)
		}
	}
}

// P9.1: May, of each kind, those that are not named too, with all edges as its numbers.
func TestMayOfAllNumbers(t *testing.T) {
	kinds := strangeKinds(api.OpCall)
	for _, r := range stepRows() {
		kinds = append(kinds, r.kind)
	}
	list := numbers()
	for _, kind := range kinds {
		for _, a := range list {
			for _, b := range list {
				for _, c := range list {
					o := api.Op{Kind: kind, A: a, B: b, C: c}
					if got := May(o); got != may(o) {
						t.Fatalf("May(%v): %t", o, got)
					}
				}
			}
		}
	}
}

// P9.1: MayCall, and May of the step, of each Sys with what is named at each bound and one past it.
func TestMayCallAtBounds(t *testing.T) {
	for _, r := range callRows() {
		for _, a := range r.a.edges() {
			for _, b := range r.b.edges() {
				for _, s := range []int{0, r.s, r.s + 1} {
					for _, u := range []int{0, r.t, r.t + 1} {
						due := r.a.has(a) && r.b.has(b) && s <= r.s && u <= r.t
						checkCall(t, api.Call{Sys: r.sys, A: a, B: b, S: text(s), T: text(u)}, due)
					}
				}
			}
		}
	}
}

// P9.1: MayCall, of each Sys with all of one number, and with a text of each length, that may be.
func TestMayCallWithin(t *testing.T) {
	for _, r := range callRows() {
		for a := r.a[0]; a <= r.a[1]; a++ {
			checkCall(t, api.Call{Sys: r.sys, A: a, B: r.b[1], S: text(r.s), T: text(r.t)}, true)
		}
		for b := r.b[0]; b <= r.b[1]; b++ {
			checkCall(t, api.Call{Sys: r.sys, A: r.a[1], B: b}, true)
		}
		for size := range r.s + 1 {
			checkCall(t, api.Call{Sys: r.sys, A: r.a[1], S: text(size)}, true)
		}
		for size := range r.t + 1 {
			checkCall(t, api.Call{Sys: r.sys, S: text(r.s), T: text(size)}, true)
		}
	}
}

// P9.1: MayCall, of each Sys, those that are not named too, with all edges as its numbers and texts of all edges.
func TestMayCallOfAllNumbers(t *testing.T) {
	syses := strangeKinds(api.SysPid)
	syses = append(syses, 0)
	for _, r := range callRows() {
		syses = append(syses, r.sys)
	}
	list := numbers()
	texts := []string{}
	for _, size := range []int{0, 1, 100, 101, 512, 513} {
		texts = append(texts, text(size))
	}
	for _, sys := range syses {
		for _, a := range list {
			for _, b := range list {
				for _, s := range texts {
					for _, u := range texts[:4] {
						c := api.Call{Sys: sys, A: a, B: b, S: s, T: u}
						if got, due := MayCall(c), mayCall(c); got != due {
							t.Fatalf("MayCall of Sys %d, A %d, B %d, %d and %d bytes: %t", sys, a, b, len(s), len(u), got)
						}
					}
				}
			}
		}
	}
}

// P9.1: each thing that is not named, alone, when it is not zero, beside all else that may be.
func TestNotNamed(t *testing.T) {
	for _, x := range numbers() {
		if x == 0 {
			continue
		}
		for _, r := range stepRows() {
			o := api.Op{Kind: r.kind, A: r.a[1], B: r.b[1], C: r.c[1]}
			if r.kind == api.OpCall {
				o.Call.Sys = api.SysPid
			}
			checkStep(t, o, true)
			a, b, c := o, o, o
			a.A, b.B, c.C = x, x, x
			checkStep(t, a, r.a.has(x))
			checkStep(t, b, r.b.has(x))
			checkStep(t, c, r.c.has(x))
		}
		for _, r := range callRows() {
			c := api.Call{Sys: r.sys, A: r.a[1], B: r.b[1]}
			a, b := c, c
			a.A, b.B = x, x
			checkCall(t, a, r.a.has(x))
			checkCall(t, b, r.b.has(x))
		}
	}
	for _, r := range callRows() {
		for _, word := range []string{"x", "/", " ", "\x00", "\xff", "0"} {
			checkCall(t, api.Call{Sys: r.sys, S: word}, r.s > 0)
			checkCall(t, api.Call{Sys: r.sys, T: word}, r.t > 0)
			checkCall(t, api.Call{Sys: r.sys, S: word, T: word}, r.s > 0 && r.t > 0)
		}
	}
}

// P9.1: kinds and Syses that the document does not name, with nothing else and with what each one that it names may have.
func TestStrangeKinds(t *testing.T) {
	for _, kind := range strangeKinds(api.OpCall) {
		checkStep(t, api.Op{Kind: kind}, false)
		for _, o := range goodSteps() {
			o.Kind = kind
			checkStep(t, o, false)
		}
	}
	for _, sys := range append(strangeKinds(api.SysPid), 0) {
		checkCall(t, api.Call{Sys: sys}, false)
		for _, c := range good() {
			c.Sys = sys
			checkCall(t, c, false)
		}
	}
}

// P9.1: texts are of any bytes, and it is bytes that are counted.
func TestTextsOfAnyBytes(t *testing.T) {
	for k := range 256 {
		one := string([]byte{byte(k)})
		for _, r := range callRows() {
			checkCall(t, api.Call{Sys: r.sys, S: one}, r.s > 0)
			checkCall(t, api.Call{Sys: r.sys, S: strings.Repeat(one, r.s), T: strings.Repeat(one, r.t)}, true)
			checkCall(t, api.Call{Sys: r.sys, S: strings.Repeat(one, r.s+1)}, false)
			checkCall(t, api.Call{Sys: r.sys, T: strings.Repeat(one, r.t+1)}, false)
		}
	}
	// Signs of two, three and four bytes; a byte that is no sign; a long one cut off in its midst.
	for _, sign := range []string{"\u00e4", "\u20ac", "\U0001f6a3", "\xff", "\xe2\x82", "\xf0\x9f\x9a", "a\x00", "\r\n", "/../"} {
		for _, r := range callRows() {
			full, beyond := strings.Repeat(sign, r.s/len(sign)), strings.Repeat(sign, r.s/len(sign)+1)
			checkCall(t, api.Call{Sys: r.sys, S: full}, true)
			checkCall(t, api.Call{Sys: r.sys, S: beyond}, false)
			full, beyond = strings.Repeat(sign, r.t/len(sign)), strings.Repeat(sign, r.t/len(sign)+1)
			checkCall(t, api.Call{Sys: r.sys, T: full}, true)
			checkCall(t, api.Call{Sys: r.sys, T: beyond}, false)
		}
	}
}

// P9.1: a step other than OpCall has no call, whether this may be or not.
func TestCallOfOtherSteps(t *testing.T) {
	calls := append(good(), api.Call{Sys: -1}, api.Call{Sys: 18}, api.Call{A: 1}, api.Call{B: -1}, api.Call{S: "/"}, api.Call{T: "\x00"})
	for _, o := range goodSteps() {
		if o.Kind == api.OpCall {
			continue
		}
		for _, c := range calls {
			checkStep(t, api.Op{Kind: o.Kind, A: o.A, B: o.B, C: o.C, Call: c}, false)
		}
	}
}

// P9.1: an OpCall has nothing beside its call, whether this may be or not.
func TestNumbersOfCalls(t *testing.T) {
	bad := []api.Call{{}, {Sys: 18}, {Sys: api.SysPid, A: 1}, {Sys: api.SysClose, A: 8}, {Sys: api.SysStat, S: text(101)}}
	for _, x := range numbers() {
		for _, c := range good() {
			checkStep(t, api.Op{Kind: api.OpCall, A: x, Call: c}, x == 0)
			checkStep(t, api.Op{Kind: api.OpCall, B: x, Call: c}, x == 0)
			checkStep(t, api.Op{Kind: api.OpCall, C: x, Call: c}, x == 0)
		}
		for _, c := range bad {
			checkStep(t, api.Op{Kind: api.OpCall, A: x, Call: c}, false)
			checkStep(t, api.Op{Kind: api.OpCall, B: x, Call: c}, false)
			checkStep(t, api.Op{Kind: api.OpCall, C: x, Call: c}, false)
		}
	}
}

// R1: texts of many bytes end in a time that their size explains.
func TestGreatTexts(t *testing.T) {
	great := strings.Repeat("/a", 1<<25)
	for sys := -1; sys <= 18; sys++ {
		checkCall(t, api.Call{Sys: sys, S: great}, false)
		checkCall(t, api.Call{Sys: sys, T: great}, false)
		checkCall(t, api.Call{Sys: sys, S: great, T: great}, false)
	}
	for kind := -1; kind <= 11; kind++ {
		checkStep(t, api.Op{Kind: kind, Call: api.Call{S: great}}, false)
	}
}

// P9.1: Fix of none is none.
func TestFixOfNone(t *testing.T) {
	if a, b := Fix(nil), Fix([]api.Op{}); len(a) != 0 || len(b) != 0 {
		t.Errorf("Fix of none: %v, %v", a, b)
	}
	room := []api.Op{{Kind: api.OpMark}, {Kind: -1}}
	if got := Fix(room[:0]); len(got) != 0 {
		t.Errorf("Fix of none with room: %v", got)
	}
}

// P9.1: Fix of one step, of each that may be and each that may not.
func TestFixOfOne(t *testing.T) {
	for _, o := range goodSteps() {
		if got := Fix([]api.Op{o}); len(got) != 1 || got[0] != o {
			t.Errorf("Fix(%v): %v", o, got)
		}
	}
	for _, o := range badSteps() {
		if got := Fix([]api.Op{o}); len(got) != 1 || got[0] != (api.Op{Kind: api.OpNop}) {
			t.Errorf("Fix(%v): %v", o, got)
		}
	}
}

// P9.1: Fix, of all lists of up to three of some steps: each at its place.
func TestFixOfAllLists(t *testing.T) {
	some := []api.Op{{}, {A: 1}, {Kind: api.OpWork, A: 1000}, {Kind: api.OpWork}, {Kind: api.OpCall, Call: api.Call{Sys: api.SysWrite, A: 7, S: "\x00"}}, {Kind: api.OpCall}, {Kind: 11}}
	var walk func(list []api.Op)
	walk = func(list []api.Op) {
		if got := Fix(list); !slices.Equal(got, fixed(list)) {
			t.Errorf("Fix(%v): %v", list, got)
		}
		if len(list) < 3 {
			for _, o := range some {
				walk(append(slices.Clone(list), o))
			}
		}
	}
	walk(nil)
}

// P9.1: Fix of lists of each length, up to MaxOps and beyond, where some steps may be and some may not.
func TestFixOfEachLength(t *testing.T) {
	for size := range 90 {
		for shift := range 60 {
			list := mixed(size, shift)
			got := Fix(list)
			if len(got) != min(size, 40) {
				t.Fatalf("Fix of %d steps: %d", size, len(got))
			}
			for k, due := range fixed(list) {
				if got[k] != due {
					t.Errorf("Fix of %d steps: at %d %v became %v", size, k, list[k], got[k])
				}
			}
		}
	}
}

// P9.1: one step that may not be, at each place, and one that may be among such as may not.
func TestFixAtEachPlace(t *testing.T) {
	mark, stranger := api.Op{Kind: api.OpMark}, api.Op{Kind: api.OpDone, B: 1}
	for size := 1; size <= 43; size++ {
		for at := range size {
			fine, bad := slices.Repeat([]api.Op{mark}, size), slices.Repeat([]api.Op{stranger}, size)
			fine[at], bad[at] = stranger, mark
			a, b := Fix(fine), Fix(bad)
			for k := range min(size, 40) {
				due, other := mark, api.Op{}
				if k == at {
					due, other = other, due
				}
				if a[k] != due || b[k] != other {
					t.Errorf("of %d steps one at %d: at %d %v and %v", size, at, k, a[k], b[k])
				}
			}
		}
	}
}

// P9.1: a jump's place may lie behind the program's last step, and steps need not fit together.
func TestFixLooksAtStepsAlone(t *testing.T) {
	list := []api.Op{{Kind: api.OpJump, A: 39}, {Kind: api.OpUnlock, A: 3}, {Kind: api.OpDone}, {Kind: api.OpDone}, {Kind: api.OpCall, Call: api.Call{Sys: api.SysFork, A: 39}}}
	if got := Fix(list); !slices.Equal(got, list) {
		t.Errorf("Fix(%v): %v", list, got)
	}
}

// P9.2: each step that Fix answers may be, and Fix of Fix is Fix.
func TestFixOfFix(t *testing.T) {
	for size := range 50 {
		for shift := range 25 {
			once := Fix(mixed(size, shift))
			for k, o := range once {
				if !May(o) {
					t.Errorf("of %d steps at %d: %v", size, k, o)
				}
			}
			if twice := Fix(once); !slices.Equal(once, twice) {
				t.Errorf("Fix of %v: %v", once, twice)
			}
		}
	}
	list := numbers()
	for k, kind := range append(strangeKinds(api.OpCall), list...) {
		wild := []api.Op{}
		for m := range list {
			wild = append(wild, api.Op{Kind: kind, A: list[m], B: list[(m+k)%len(list)], C: list[(m*k)%len(list)], Call: api.Call{Sys: list[(m+3*k)%len(list)]}})
		}
		once := Fix(wild)
		if !slices.Equal(once, fixed(wild)) || !slices.Equal(Fix(once), once) {
			t.Errorf("Fix(%v): %v", wild, once)
		}
	}
}

// R4: what Fix answers may be written over without the argument being changed, and the other way round; two answers share nothing.
func TestFixSharesNothing(t *testing.T) {
	for _, size := range []int{1, 2, 39, 40, 41, 80} {
		whole := mixed(size+5, 1)
		was := slices.Clone(whole)
		list := whole[:size]
		one, two := Fix(list), Fix(list)
		if !slices.Equal(whole, was) {
			t.Fatalf("Fix of %d steps: the list became %v", size, whole)
		}
		due := slices.Clone(one)
		for k := range one {
			one[k] = api.Op{Kind: api.OpSleep, A: 77}
		}
		// Its spare room is its own, too.
		one = append(one, api.Op{Kind: api.OpSleep, A: 78})
		for k := range one[:cap(one)] {
			one[:cap(one)][k] = api.Op{Kind: api.OpSleep, A: 79}
		}
		if !slices.Equal(whole, was) {
			t.Errorf("of %d steps the answer was written over: the list became %v", size, whole)
		}
		for k := range whole {
			whole[k] = api.Op{Kind: api.OpSleep, A: 80}
		}
		if !slices.Equal(two, due) {
			t.Errorf("of %d steps the list and the other answer were written over: the answer became %v", size, two)
		}
	}
}

// R4: a program that needs no change is new memory, too.
func TestFixOfAProgramIsNew(t *testing.T) {
	list := slices.Repeat([]api.Op{{Kind: api.OpMark}}, 40)
	got := Fix(list)
	got[0], got[39] = api.Op{Kind: api.OpDone}, api.Op{Kind: api.OpDone}
	if list[0].Kind != api.OpMark || list[39].Kind != api.OpMark {
		t.Errorf("the list became %v", list)
	}
	list[1], list[38] = api.Op{}, api.Op{}
	if got[1].Kind != api.OpMark || got[38].Kind != api.OpMark {
		t.Errorf("the answer became %v", got)
	}
}

// R4: the list's spare room is neither looked at nor changed.
func TestFixLeavesSpareRoom(t *testing.T) {
	room := make([]api.Op, 60)
	for k := range room {
		room[k] = api.Op{Kind: api.OpWork, A: k + 1}
	}
	was := slices.Clone(room)
	for size := range 60 {
		if got := Fix(room[:size]); !slices.Equal(got, was[:min(size, 40)]) {
			t.Errorf("Fix of %d steps: %v", size, got)
		}
	}
	if !slices.Equal(room, was) {
		t.Errorf("the list became %v", room)
	}
}

// Of a great list Fix looks at the first MaxOps alone.
func TestFixOfAGreatList(t *testing.T) {
	list := slices.Repeat([]api.Op{{Kind: api.OpMark}}, 1<<17)
	for range 10000 {
		if got := Fix(list); len(got) != 40 || got[39] != list[39] {
			t.Fatalf("%d steps", len(got))
		}
	}
}

// R5: what is answered hangs on the arguments alone, in whatever order and from however many goroutines it is asked.
func TestAskedAtOneTime(t *testing.T) {
	list := append(goodSteps(), badSteps()...)
	was := slices.Clone(list)
	var group sync.WaitGroup
	for worker := range 4 {
		group.Go(func() {
			for k := range 10 * len(list) {
				at := k * (2*worker + 1) % len(list)
				o := list[at]
				if May(o) != may(o) || MayCall(o.Call) != mayCall(o.Call) {
					t.Errorf("of %v: May %t, MayCall %t", o, May(o), MayCall(o.Call))
				}
				if got := Fix(list[at:]); !slices.Equal(got, fixed(was[at:])) {
					t.Errorf("Fix of the steps from %d on: %v", at, got)
				}
			}
		})
	}
	group.Wait()
	if !slices.Equal(list, was) {
		t.Errorf("the list became %v", list)
	}
}
