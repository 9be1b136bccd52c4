package impl

import "strconv"

// MaxValue is the largest integer that the encodings of this module carry.
const MaxValue = 1000000000000

// FormatInt returns n in decimal, with a leading minus sign if n is negative.
func FormatInt(n int) string {
	return strconv.Itoa(n)
}

// ParseInt returns the integer from 0 to MaxValue that FormatInt writes as s.
func ParseInt(s string) (int, bool) {
	if s == "" || s[0] == '0' && s != "0" {
		return 0, false
	}
	n := 0
	for i := range len(s) {
		if !pushDigit(&n, s[i]) {
			return 0, false
		}
	}
	return n, true
}

// pushDigit appends the digit c to *n and reports whether the result is a value.
// A caller that stops at the first false never lets *n overflow.
func pushDigit(n *int, c byte) bool {
	if c < '0' || c > '9' {
		return false
	}
	*n = *n*10 + int(c-'0')
	return *n <= MaxValue
}

// Min returns the smaller of a and b.
func Min(a int, b int) int {
	least, _ := extremes(a, b)
	return least
}

// Max returns the larger of a and b.
func Max(a int, b int) int {
	_, greatest := extremes(a, b)
	return greatest
}

// extremes takes its first value apart, so that there is always an answer.
func extremes(first int, rest ...int) (int, int) {
	least, greatest := first, first
	for _, n := range rest {
		widen(&least, &greatest, n)
	}
	return least, greatest
}

// widen moves the one bound, if any, that does not take in n.
func widen(least *int, greatest *int, n int) {
	if n < *least {
		*least = n
	}
	if n > *greatest {
		*greatest = n
	}
}

// CeilDiv returns a divided by b, rounded up; 0 if a or b is out of range.
func CeilDiv(a int, b int) int {
	if !InRange(a, 0, MaxValue) || !InRange(b, 1, MaxValue) {
		return 0
	}
	return (a + b - 1) / b
}

// Mod returns the remainder of p modulo q, never negative; 0 if q is out of range.
func Mod(p int, q int) int {
	if !InRange(q, 1, MaxValue) {
		return 0
	}
	r := p % q
	if r < 0 {
		// Go's remainder has the sign of p.
		r += q
	}
	return r
}

// InRange reports whether low <= n and n <= high.
func InRange(n int, low int, high int) bool {
	return low <= n && n <= high
}
