package num

import (
	"math"
	"math/big"
	"slices"
	"testing"

	"coxswain/api"
)

// edges are rising: the bounds, what lies just beside them, and numbers whose sums or products wrap round or just don't reach a bound.
var edges = []int{
	math.MinInt, math.MinInt + 1, -api.Most - 1, -api.Most, -7, -2, -1,
	0, 1, 2, 3, 6, 7, 8, 1000,
	1<<20 - 1, 1 << 20, 1<<20 + 1, 1 << 30, 1 << 32,
	api.Most/3 - 1, api.Most / 3, api.Most/3 + 1,
	api.Most/2 - 1, api.Most / 2, api.Most/2 + 1,
	api.Most - 1, api.Most, api.Most + 1, 1 << 41, 1 << 62, math.MaxInt - 1, math.MaxInt,
}

// big numbers know no bounds: they tell what is due before it is clipped.

func clipped(x *big.Int) *big.Int {
	if x.Sign() < 0 {
		return big.NewInt(0)
	}
	if most := big.NewInt(api.Most); x.Cmp(most) > 0 {
		return most
	}
	return x
}

func wide(x int) *big.Int { return clipped(big.NewInt(int64(x))) }

func wideDivisor(x int) *big.Int {
	if x < 1 {
		return big.NewInt(1)
	}
	return wide(x)
}

func dueSum(list ...int) int {
	sum := big.NewInt(0)
	for _, x := range list {
		sum.Add(sum, wide(x))
	}
	return int(clipped(sum).Int64())
}

func dueProduct(a int, b int) int {
	return int(clipped(new(big.Int).Mul(wide(a), wide(b))).Int64())
}

func dueDown(a int, b int) int {
	return int(new(big.Int).Div(wide(a), wideDivisor(b)).Int64())
}

func dueUp(a int, b int) int {
	whole, rest := new(big.Int).DivMod(wide(a), wideDivisor(b), new(big.Int))
	if rest.Sign() > 0 {
		whole.Add(whole, big.NewInt(1))
	}
	return int(whole.Int64())
}

// P1.1: Clip.
func TestClip(t *testing.T) {
	cases := []struct{ x, want int }{
		{0, 0}, {1, 1}, {5, 5}, {-1, 0}, {-api.Most, 0}, {math.MinInt, 0},
		{api.Most - 1, api.Most - 1}, {api.Most, api.Most}, {api.Most + 1, api.Most}, {math.MaxInt, api.Most},
	}
	for _, c := range cases {
		if got := Clip(c.x); got != c.want {
			t.Errorf("Clip(%d): %d, not %d", c.x, got, c.want)
		}
	}
}

// P1.1: Add.
func TestAdd(t *testing.T) {
	cases := []struct {
		list []int
		want int
	}{
		{nil, 0}, {[]int{}, 0}, {[]int{0}, 0}, {[]int{4}, 4}, {[]int{-4}, 0},
		{[]int{5, -3}, 5}, {[]int{-3, 5}, 5}, {[]int{1, 2, 3}, 6}, {[]int{math.MinInt, math.MinInt}, 0},
		{[]int{api.Most - 1, 1}, api.Most}, {[]int{api.Most, 1}, api.Most}, {[]int{api.Most, -1}, api.Most},
		{[]int{math.MaxInt, math.MinInt}, api.Most}, {[]int{math.MaxInt, math.MaxInt}, api.Most},
		{[]int{api.Most, api.Most, math.MaxInt, -api.Most, 7}, api.Most},
	}
	for _, c := range cases {
		if got := Add(c.list...); got != c.want {
			t.Errorf("Add(%v): %d, not %d", c.list, got, c.want)
		}
	}
	if Add() != 0 {
		t.Errorf("Add(): %d, not 0", Add())
	}
}

// P1.1: every sum is clipped, so a list of any length stays within bounds.
func TestAddOfLongLists(t *testing.T) {
	most := slices.Repeat([]int{math.MaxInt}, 1<<23)
	if got := Add(most...); got != api.Most {
		t.Errorf("Add of many: %d, not %d", got, api.Most)
	}
	ones := slices.Repeat([]int{1, -1}, 1<<20)
	if got := Add(ones...); got != 1<<20 {
		t.Errorf("Add of ones: %d, not %d", got, 1<<20)
	}
}

// R4: the list that is handed in stays as it is, its spare room too.
func TestAddLeavesTheList(t *testing.T) {
	room := []int{-3, api.Most + 5, 9, -8, 11}
	before := slices.Clone(room)
	Add(room[:3]...)
	if !slices.Equal(room, before) {
		t.Errorf("the list is %v, it was %v", room, before)
	}
}

// P1.1: Mul.
func TestMul(t *testing.T) {
	cases := []struct{ a, b, want int }{
		{3, 7, 21}, {0, 0, 0}, {0, math.MaxInt, 0}, {-5, 7, 0}, {-5, -7, 0}, {math.MinInt, math.MaxInt, 0},
		{1, api.Most, api.Most}, {1, api.Most + 9, api.Most}, {1, api.Most - 1, api.Most - 1},
		{2, api.Most / 2, api.Most}, {2, api.Most/2 - 1, api.Most - 2}, {2, api.Most/2 + 1, api.Most},
		{3, api.Most / 3, api.Most - 1}, {3, api.Most/3 + 1, api.Most},
		{1 << 20, 1 << 20, api.Most}, {1<<20 - 1, 1 << 20, 1<<40 - 1<<20}, {1<<20 + 1, 1 << 20, api.Most},
		{1 << 30, 1 << 30, api.Most}, {1 << 32, 1 << 32, api.Most}, {1 << 31, 1 << 32, api.Most},
		{api.Most, api.Most, api.Most}, {math.MaxInt, math.MaxInt, api.Most},
	}
	for _, c := range cases {
		if got := Mul(c.a, c.b); got != c.want {
			t.Errorf("Mul(%d, %d): %d, not %d", c.a, c.b, got, c.want)
		}
		if got := Mul(c.b, c.a); got != c.want {
			t.Errorf("Mul(%d, %d): %d, not %d", c.b, c.a, got, c.want)
		}
	}
}

// P1.1: Up and Down.
func TestUpDown(t *testing.T) {
	cases := []struct{ a, b, up, down int }{
		{7, 3, 3, 2}, {6, 3, 2, 2}, {8, 3, 3, 2}, {2, 3, 1, 0}, {0, 3, 0, 0}, {1, 1, 1, 1},
		{7, 0, 7, 7}, {7, -2, 7, 7}, {7, math.MinInt, 7, 7}, {0, 0, 0, 0},
		{-1, 1, 0, 0}, {-7, 3, 0, 0}, {-7, -3, 0, 0}, {math.MinInt, math.MinInt, 0, 0},
		{math.MaxInt, 1, api.Most, api.Most}, {math.MaxInt, 0, api.Most, api.Most}, {math.MaxInt, 2, api.Most / 2, api.Most / 2},
		{5, math.MaxInt, 1, 0}, {api.Most, api.Most, 1, 1}, {api.Most, math.MaxInt, 1, 1}, {math.MaxInt, math.MaxInt, 1, 1},
		{api.Most - 1, api.Most, 1, 0}, {api.Most - 1, api.Most + 1, 1, 0}, {api.Most, api.Most - 1, 2, 1},
	}
	for _, c := range cases {
		if got := Up(c.a, c.b); got != c.up {
			t.Errorf("Up(%d, %d): %d, not %d", c.a, c.b, got, c.up)
		}
		if got := Down(c.a, c.b); got != c.down {
			t.Errorf("Down(%d, %d): %d, not %d", c.a, c.b, got, c.down)
		}
	}
}

// P1.1: each pair of edges, against numbers without bounds.
func TestEdgesAgainstBigNumbers(t *testing.T) {
	pairs := []struct {
		name     string
		got, due func(a int, b int) int
	}{
		{"Add", func(a int, b int) int { return Add(a, b) }, func(a int, b int) int { return dueSum(a, b) }},
		{"Mul", Mul, dueProduct},
		{"Up", Up, dueUp},
		{"Down", Down, dueDown},
	}
	for _, p := range pairs {
		for _, a := range edges {
			for _, b := range edges {
				if got, due := p.got(a, b), p.due(a, b); got != due {
					t.Errorf("%s(%d, %d): %d, not %d", p.name, a, b, got, due)
				}
			}
		}
	}
	for _, a := range edges {
		for _, b := range edges {
			for _, c := range edges {
				if got, due := Add(a, b, c), dueSum(a, b, c); got != due {
					t.Errorf("Add(%d, %d, %d): %d, not %d", a, b, c, got, due)
				}
			}
		}
	}
}

// P1.2: greater numbers never make less; a greater divisor never makes more.
func TestGreaterNumbersNeverMakeLess(t *testing.T) {
	if !slices.IsSorted(edges) {
		t.Fatal("the edges do not rise")
	}
	for i, low := range edges {
		for _, high := range edges[i:] {
			if Clip(low) > Clip(high) {
				t.Errorf("Clip(%d) is above Clip(%d)", low, high)
			}
			for _, x := range edges {
				checkRising(t, low, high, x)
			}
		}
	}
}

func checkRising(t *testing.T, low int, high int, x int) {
	t.Helper()
	if Add(low, x) > Add(high, x) || Add(x, low) > Add(x, high) || Add(x) > Add(x, low) {
		t.Errorf("Add falls from %d to %d beside %d", low, high, x)
	}
	if Mul(low, x) > Mul(high, x) || Mul(x, low) > Mul(x, high) {
		t.Errorf("Mul falls from %d to %d beside %d", low, high, x)
	}
	if Up(low, x) > Up(high, x) || Down(low, x) > Down(high, x) {
		t.Errorf("Up or Down falls from %d to %d by %d", low, high, x)
	}
	if Up(x, low) < Up(x, high) || Down(x, low) < Down(x, high) {
		t.Errorf("Up or Down of %d rises from a divisor %d to %d", x, low, high)
	}
}

// P1.2: where nothing is clipped the answers are the numbers' own.
func TestNothingClipped(t *testing.T) {
	for a := range 200 {
		if Clip(a) != a || Add(a) != a {
			t.Errorf("%d: Clip %d, Add %d", a, Clip(a), Add(a))
		}
		for b := range 200 {
			if Add(a, b) != a+b || Mul(a, b) != a*b {
				t.Errorf("%d and %d: Add %d, Mul %d", a, b, Add(a, b), Mul(a, b))
			}
			if b > 0 {
				checkDivision(t, a, b)
			}
		}
	}
}

func checkDivision(t *testing.T, a int, b int) {
	t.Helper()
	down, up := Down(a, b), Up(a, b)
	if down*b > a || (down+1)*b <= a {
		t.Errorf("Down(%d, %d): %d", a, b, down)
	}
	if up*b < a || (up-1)*b >= a {
		t.Errorf("Up(%d, %d): %d", a, b, up)
	}
}
