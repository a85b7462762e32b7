package impl

import "strconv"

// MaxValue is the largest integer that the encodings of this module carry.
const MaxValue = 1000000000000

// FormatInt returns the decimal representation of n.
func FormatInt(n int) string {
	return strconv.Itoa(n)
}

// ParseInt returns the integer from 0 to MaxValue whose FormatInt is s.
func ParseInt(s string) (int, bool) {
	n, err := strconv.Atoi(s)
	// Atoi takes signs and leading zeros too; formatting n again tells them apart.
	if err != nil || !InRange(n, 0, MaxValue) || FormatInt(n) != s {
		return 0, false
	}
	return n, true
}

// Min returns the smaller of a and b.
func Min(a int, b int) int {
	return outermost(func(x int, y int) bool { return x < y }, a, b)
}

// Max returns the larger of a and b.
func Max(a int, b int) int {
	return outermost(func(x int, y int) bool { return x > y }, a, b)
}

// outermost returns the number that no other of the given ones is beyond.
// The first one is a parameter of its own so that there is always a result.
func outermost(beyond func(x int, y int) bool, first int, others ...int) int {
	result := first
	for _, n := range others {
		if beyond(n, result) {
			result = n
		}
	}
	return result
}

// CeilDiv returns a divided by b, rounded up; 0 if a or b is out of range.
func CeilDiv(a int, b int) int {
	if !InRange(a, 0, MaxValue) || !InRange(b, 1, MaxValue) {
		return 0
	}
	return (a + b - 1) / b
}

// Mod returns the remainder of p modulo q in the range 0 to q-1; 0 if q is out of range.
func Mod(p int, q int) int {
	if !InRange(q, 1, MaxValue) {
		return 0
	}
	remainder := p % q
	// Go's remainder has the sign of p.
	if remainder < 0 {
		remainder += q
	}
	return remainder
}

// InRange reports whether low <= n and n <= high.
func InRange(n int, low int, high int) bool {
	return low <= n && n <= high
}
