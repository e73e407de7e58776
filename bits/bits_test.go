package bits

import (
	"math"
	"slices"
	"testing"
)

// words are none, all, each one alone, each one left out, all below and from each one on, and some without a rule.
func words() []uint64 {
	list := []uint64{
		0, math.MaxUint64, math.MaxInt64, math.MaxUint32, 0x28, 0xaaaaaaaaaaaaaaaa, 0x5555555555555555,
		0x8000000000000001, 0xdeadbeefcafef00d, 0x0123456789abcdef, 0x00ff00ff00ff00ff, 0xffff0000ffff0000,
	}
	one := uint64(1)
	for range 64 {
		list = append(list, one, ^one, one-1, -one)
		one *= 2
	}
	return list
}

// strangers are numbers that no set holds: those just beside the bounds, the least and the greatest, and those that would stand for a number of a set if their higher bits were lost.
func strangers() []int {
	return []int{
		math.MinInt, math.MinInt + 1, math.MinInt + 5, math.MinInt32, -1 << 40, -256, -128, -65, -64, -63, -5, -2, -1,
		64, 65, 69, 127, 128, 133, 256, 261, 1 << 8, 1 << 16, 1 << 32, 1<<32 + 5, 1 << 40, 1 << 62, math.MaxInt32, math.MaxInt - 1, math.MaxInt,
	}
}

// members answers m as a list of its own, read by divisions alone: rising.
func members(m uint64) []int {
	list := []int{}
	for i := range 64 {
		if m%2 == 1 {
			list = append(list, i)
		}
		m /= 2
	}
	return list
}

// joined answers the word whose members are listed, each of them once.
func joined(list []int) uint64 {
	m := uint64(0)
	for _, i := range list {
		one := uint64(1)
		for range i {
			one *= 2
		}
		m += one
	}
	return m
}

func with(list []int, i int) []int {
	if slices.Contains(list, i) {
		return list
	}
	return append(slices.Clone(list), i)
}

func without(list []int, i int) []int {
	return slices.DeleteFunc(slices.Clone(list), func(x int) bool { return x == i })
}

// P2.1: the document's examples, and others of the kind.
func TestExamples(t *testing.T) {
	if got := Set(0, 5); got != 32 {
		t.Errorf("Set(0, 5): %d, not 32", got)
	}
	if got := Top(0x28); got != 5 {
		t.Errorf("Top(0x28): %d, not 5", got)
	}
	if got := All(0x28); !slices.Equal(got, []int{5, 3}) {
		t.Errorf("All(0x28): %v, not 5 3", got)
	}
	if got := Top(0); got != -1 {
		t.Errorf("Top(0): %d, not -1", got)
	}
	if got := Clear(0x28, 3); got != 0x20 {
		t.Errorf("Clear(0x28, 3): %#x, not 0x20", got)
	}
	if got := Count(0x28); got != 2 {
		t.Errorf("Count(0x28): %d, not 2", got)
	}
	if Has(0x28, 4) || !Has(0x28, 3) {
		t.Errorf("Has(0x28, ..): 4 %t, 3 %t", Has(0x28, 4), Has(0x28, 3))
	}
}

// P2.1: Set and Clear, of each number that a set may hold.
func TestSetAndClear(t *testing.T) {
	for _, m := range words() {
		list := members(m)
		for i := range 64 {
			if got, due := Set(m, i), joined(with(list, i)); got != due {
				t.Errorf("Set(%#x, %d): %#x, not %#x", m, i, got, due)
			}
			if got, due := Clear(m, i), joined(without(list, i)); got != due {
				t.Errorf("Clear(%#x, %d): %#x, not %#x", m, i, got, due)
			}
		}
	}
}

// P2.1: Has, of each number that a set may hold.
func TestHas(t *testing.T) {
	for _, m := range words() {
		list := members(m)
		for i := range 64 {
			if got, due := Has(m, i), slices.Contains(list, i); got != due {
				t.Errorf("Has(%#x, %d): %t, not %t", m, i, got, due)
			}
		}
	}
}

// P2.1: what is not from 0 to 63 is not set, not cleared, not there.
func TestStrangers(t *testing.T) {
	for _, m := range words() {
		for _, i := range strangers() {
			if got := Set(m, i); got != m {
				t.Errorf("Set(%#x, %d): %#x", m, i, got)
			}
			if got := Clear(m, i); got != m {
				t.Errorf("Clear(%#x, %d): %#x", m, i, got)
			}
			if Has(m, i) {
				t.Errorf("Has(%#x, %d)", m, i)
			}
		}
	}
}

// P2.1: the least and the greatest number of a set, written out.
func TestBounds(t *testing.T) {
	const all = uint64(math.MaxUint64)
	if got := Set(0, 0); got != 1 {
		t.Errorf("Set(0, 0): %#x", got)
	}
	if got := Set(0, 63); got != 1<<63 {
		t.Errorf("Set(0, 63): %#x", got)
	}
	if got := Clear(all, 0); got != all-1 {
		t.Errorf("Clear(all, 0): %#x", got)
	}
	if got := Clear(all, 63); got != all>>1 {
		t.Errorf("Clear(all, 63): %#x", got)
	}
	for _, i := range []int{0, 63} {
		if !Has(all, i) || Has(0, i) {
			t.Errorf("Has(.., %d): of all %t, of none %t", i, Has(all, i), Has(0, i))
		}
	}
	if Top(1) != 0 || Top(1<<63) != 63 || Top(all) != 63 {
		t.Errorf("Top: %d, %d, %d", Top(1), Top(1<<63), Top(all))
	}
}

// P2.1: Top and Count.
func TestTopAndCount(t *testing.T) {
	for _, m := range words() {
		list := members(m)
		due := -1
		if len(list) > 0 {
			due = slices.Max(list)
		}
		if got := Top(m); got != due {
			t.Errorf("Top(%#x): %d, not %d", m, got, due)
		}
		if got := Count(m); got != len(list) {
			t.Errorf("Count(%#x): %d, not %d", m, got, len(list))
		}
	}
}

// P2.1: All, falling; nothing of none, 63 to 0 of all.
func TestAll(t *testing.T) {
	for _, m := range words() {
		due := members(m)
		slices.Reverse(due)
		if got := All(m); !slices.Equal(got, due) {
			t.Errorf("All(%#x): %v, not %v", m, got, due)
		}
	}
	if got := All(0); len(got) != 0 {
		t.Errorf("All(0): %v", got)
	}
	if got := All(math.MaxUint64); len(got) != 64 || got[0] != 63 || got[63] != 0 {
		t.Errorf("All of all: %v", got)
	}
}

// R4: what is answered is new memory, its spare room too: no answer changes with another one.
func TestAllIsNewMemory(t *testing.T) {
	for _, m := range words() {
		first, second := All(m), All(m)
		due := slices.Clone(second)
		first = first[:cap(first)]
		for i := range first {
			first[i] = -7
		}
		if !slices.Equal(second, due) {
			t.Errorf("All(%#x): %v became %v with another answer", m, due, second)
		}
		if later := All(m); !slices.Equal(later, due) {
			t.Errorf("All(%#x): %v, earlier %v", m, later, due)
		}
	}
}

// The chapter's way: Set and Clear are handed on as function values.
func TestHandedOn(t *testing.T) {
	turn := func(m uint64, do func(uint64, int) uint64, list ...int) uint64 {
		for _, i := range list {
			m = do(m, i)
		}
		return m
	}
	if got := turn(0, Set, 63, 0, 5, -1, 64, 5); got != 1<<63|1<<5|1 {
		t.Errorf("set one by one: %#x", got)
	}
	if got := turn(math.MaxUint64, Clear, 63, 0, 64, -1, 63); got != math.MaxInt64-1 {
		t.Errorf("cleared one by one: %#x", got)
	}
}
