// Package num: numbers that stay within bounds, 0 to api.Most. Its chapter: shared/doc/01-num.md.
package num

import "coxswain/api"

// Clip answers x, or the bound that it lies beyond.
func Clip(x int) int {
	if x < 0 {
		return 0
	}
	if x > api.Most {
		return api.Most
	}
	return x
}

// Add answers the sum of the clipped numbers; 0 of none.
func Add(list ...int) int {
	sum := 0
	for _, x := range list {
		// Clipped at each step: a long list would run past the greatest int otherwise.
		sum = Clip(sum + Clip(x))
	}
	return sum
}

// Mul answers the product of the clipped numbers.
func Mul(a int, b int) int {
	a, b = Clip(a), Clip(b)
	// Asked by a division: the product itself may wrap round.
	if a > 0 && b > api.Most/a {
		return api.Most
	}
	return a * b
}

// Up answers how often b goes into a, a part counted as a whole.
func Up(a int, b int) int {
	a, b = Clip(a), divisor(b)
	return (a + b - 1) / b
}

// Down answers how often b goes into a as a whole.
func Down(a int, b int) int {
	return Clip(a) / divisor(b)
}

// divisor answers b clipped, but at least 1: nothing is divided by 0.
func divisor(b int) int {
	if b < 1 {
		return 1
	}
	return Clip(b)
}
