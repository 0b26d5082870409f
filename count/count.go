// Package count is layer 1: see shared/doc/01-count.md.
package count

import (
	"math"
	"strconv"
)

// Clamp holds n against lo first: with lo above hi, lo wins where n is below it.
func Clamp(n, lo, hi int) int {
	if n < lo {
		return lo
	}
	if n > hi {
		return hi
	}
	return n
}

// Add and Mul let the machine's number wrap round, and tell from its sign or size that it did.
func Add(a, b int) int {
	sum := a + b
	if b > 0 && sum < a {
		return math.MaxInt
	}
	if b < 0 && sum > a {
		return math.MinInt
	}
	return sum
}

func Mul(a, b int) int {
	if a == 0 || b == 0 {
		return 0
	}
	below := (a < 0) != (b < 0)
	product := a * b
	// Dividing back does not catch the least int times -1, whose wrapped product is itself: the sign does.
	if product/b == a && (product < 0) == below {
		return product
	}
	if below {
		return math.MinInt
	}
	return math.MaxInt
}

// Up divides n - 1, since n and by - 1 together may be beyond the greatest int.
func Up(n, by int) int {
	if n < 1 || by < 1 {
		return 0
	}
	return (n-1)/by + 1
}

func Rest(n, by int) int {
	if by < 1 {
		return 0
	}
	rest := n % by
	if rest < 0 { // Go's rest has the sign of n
		rest += by
	}
	return rest
}

func Sum(l ...int) int {
	sum := 0
	for i := range len(l) {
		sum = Add(sum, l[i])
	}
	return sum
}

func Most(l ...int) (int, bool) {
	if len(l) == 0 {
		return 0, false
	}
	// The first one, not 0: all may be below 0.
	most := l[0]
	for i := range len(l) {
		most = max(most, l[i])
	}
	return most, true
}

func Text(n int) string {
	return strconv.Itoa(n)
}

// Parse writes the number again, since the library takes more forms than the one text that a number has.
func Parse(s string) (int, bool) {
	n, err := strconv.Atoi(s)
	if err != nil || Text(n) != s {
		return 0, false
	}
	return n, true
}
