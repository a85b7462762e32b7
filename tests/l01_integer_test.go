package tests

import (
	"math"
	"strconv"
	"strings"
	"testing"

	"loop.example/g00516/impl"
)

func TestMaxValue(t *testing.T) {
	if impl.MaxValue != 1000000000000 {
		t.Errorf("MaxValue is %d", impl.MaxValue)
	}
}

func TestFormatInt(t *testing.T) {
	cases := []struct {
		n    int
		want string
	}{
		{-3, "-3"},
		{0, "0"},
		{1, "1"},
		{-1, "-1"},
		{9, "9"},
		{10, "10"},
		{-10, "-10"},
		{17, "17"},
		{120, "120"},
		{impl.MaxValue, "1000000000000"},
		{impl.MaxValue + 1, "1000000000001"},
		{-impl.MaxValue, "-1000000000000"},
		{math.MaxInt, "9223372036854775807"},
		{math.MinInt, "-9223372036854775808"},
	}
	for _, c := range cases {
		if got := impl.FormatInt(c.n); got != c.want {
			t.Errorf("FormatInt(%d) = %q, want %q", c.n, got, c.want)
		}
	}
}

func TestParseIntAccepts(t *testing.T) {
	cases := []struct {
		s    string
		want int
	}{
		{"0", 0},
		{"1", 1},
		{"9", 9},
		{"10", 10},
		{"17", 17},
		{"100", 100},
		{"1002003", 1002003},
		{"2147483648", 2147483648},
		{"4294967296", 4294967296},
		{"123456789012", 123456789012},
		{"999999999999", impl.MaxValue - 1},
		{"1000000000000", impl.MaxValue},
	}
	for _, c := range cases {
		if got, ok := impl.ParseInt(c.s); !ok || got != c.want {
			t.Errorf("ParseInt(%q) = %d, %v, want %d, true", c.s, got, ok, c.want)
		}
	}
}

// rejectParse reports an error unless ParseInt returns 0 and false for s.
func rejectParse(t *testing.T, s string) {
	t.Helper()
	if n, ok := impl.ParseInt(s); ok || n != 0 {
		t.Errorf("ParseInt(%.40q) with %d bytes = %d, %v, want 0, false", s, len(s), n, ok)
	}
}

func TestParseIntRejects(t *testing.T) {
	cases := []string{
		"",
		// leading zeros
		"00", "000", "01", "017", "0000000000000017", "01000000000000",
		// signs
		"-", "+", "-1", "+1", "-0", "+0", "-017", "+17", "--1", "1-", "1+", "-1000000000000",
		// beyond MaxValue, and numbers that wrap around to small ones
		"1000000000001", "1000000000010", "9999999999999", "10000000000000",
		"9223372036854775807", "9223372036854775808", "-9223372036854775808",
		"18446744073709551615", "18446744073709551616", "18446744073709551617",
		"18446744073709551633", "340282366920938463463374607431768211473",
		// other characters
		" ", "1 ", " 1", "1 2", "1\n", "\n1", "\t1", "1\x00", "\x001", "\x00",
		"x", "1x", "x1", "1x2", "0x11", "0b1", "0o7", "1_000", "_1", "1_",
		"1,000", "1.0", "1.", ".1", "1e3", "1E3", "/", ":", "1/", "1:",
		"NaN", "Inf", "true", "\xff", "1\xff",
		"\u0661", "\uff11", "1\u0661", "\u00b2", "\u22121",
	}
	for _, s := range cases {
		rejectParse(t, s)
	}
}

func TestParseIntManyDigits(t *testing.T) {
	for _, count := range []int{14, 19, 20, 21, 40, 1000, 100000} {
		for _, digit := range []string{"0", "1", "9"} {
			many := strings.Repeat(digit, count)
			rejectParse(t, many)
			rejectParse(t, many+"7")
			rejectParse(t, "-"+many)
			rejectParse(t, many+"x")
		}
	}
}

// Of the strings of one and two bytes, exactly the decimal forms are accepted.
func TestParseIntShortStrings(t *testing.T) {
	rejectOrMatch := func(s string, n int, valid bool) {
		if !valid {
			n = 0
		}
		if got, ok := impl.ParseInt(s); ok != valid || got != n {
			t.Errorf("ParseInt(%q) = %d, %v, want %d, %v", s, got, ok, n, valid)
		}
	}
	isDigit := func(b int) bool { return '0' <= b && b <= '9' }
	for a := range 256 {
		rejectOrMatch(string([]byte{byte(a)}), a-'0', isDigit(a))
		for b := range 256 {
			valid := isDigit(a) && isDigit(b) && a != '0'
			rejectOrMatch(string([]byte{byte(a), byte(b)}), 10*(a-'0')+b-'0', valid)
		}
	}
}

// ParseInt inverts FormatInt in the range 0 to MaxValue, and only there.
func TestParseIntInvertsFormatInt(t *testing.T) {
	check := func(n int) {
		s := impl.FormatInt(n)
		if s != strconv.Itoa(n) {
			t.Errorf("FormatInt(%d) = %q", n, s)
		}
		if n < 0 || n > impl.MaxValue {
			rejectParse(t, s)
			return
		}
		if got, ok := impl.ParseInt(s); !ok || got != n {
			t.Errorf("ParseInt(FormatInt(%d)) = %d, %v", n, got, ok)
		}
	}
	for n := -2000; n <= 2000; n++ {
		check(n)
		check(n * 1000003)
		check(impl.MaxValue + n)
		check(-impl.MaxValue + n)
	}
	for power := 1; power <= 100000000000000000; power *= 10 {
		for _, n := range []int{power - 1, power, power + 1} {
			check(n)
			check(-n)
		}
	}
	check(math.MaxInt)
	check(math.MinInt)
}

func TestMinMax(t *testing.T) {
	cases := []struct{ small, large int }{
		{-1, 2},
		{0, 0},
		{0, 1},
		{-1, 0},
		{-5, -4},
		{7, 7},
		{impl.MaxValue, impl.MaxValue + 1},
		{math.MinInt, 0},
		{0, math.MaxInt},
		{math.MinInt, 1},
		{-2, math.MaxInt},
		{math.MinInt, math.MaxInt},
		{math.MinInt, math.MinInt + 1},
		{math.MinInt, math.MinInt},
		{math.MaxInt - 1, math.MaxInt},
		{math.MaxInt, math.MaxInt},
	}
	for _, c := range cases {
		if a, b := impl.Min(c.small, c.large), impl.Min(c.large, c.small); a != c.small || b != c.small {
			t.Errorf("Min of %d and %d = %d, and %d in the other order", c.small, c.large, a, b)
		}
		if a, b := impl.Max(c.small, c.large), impl.Max(c.large, c.small); a != c.large || b != c.large {
			t.Errorf("Max of %d and %d = %d, and %d in the other order", c.small, c.large, a, b)
		}
	}
}

func TestCeilDiv(t *testing.T) {
	cases := []struct{ a, b, want int }{
		{7, 3, 3},
		{6, 3, 2},
		{0, 1, 0},
		{0, 5, 0},
		{1, 1, 1},
		{1, 5, 1},
		{5, 5, 1},
		{6, 5, 2},
		{0, impl.MaxValue, 0},
		{1, impl.MaxValue, 1},
		{impl.MaxValue, 1, impl.MaxValue},
		{impl.MaxValue, 2, 500000000000},
		{impl.MaxValue - 1, 2, 500000000000},
		{impl.MaxValue, 3, 333333333334},
		{impl.MaxValue, impl.MaxValue, 1},
		{impl.MaxValue, impl.MaxValue - 1, 2},
		{impl.MaxValue - 1, impl.MaxValue, 1},
	}
	for _, c := range cases {
		if got := impl.CeilDiv(c.a, c.b); got != c.want {
			t.Errorf("CeilDiv(%d, %d) = %d, want %d", c.a, c.b, got, c.want)
		}
	}
}

// The quotient rounded up is the smallest one whose product is not below a.
func TestCeilDivRoundsUp(t *testing.T) {
	for a := range 200 {
		for b := 1; b < 50; b++ {
			want := 0
			for want*b < a {
				want++
			}
			if got := impl.CeilDiv(a, b); got != want {
				t.Errorf("CeilDiv(%d, %d) = %d, want %d", a, b, got, want)
			}
		}
	}
}

func TestCeilDivOutOfRange(t *testing.T) {
	good := []int{1, 2, 7, impl.MaxValue}
	badDividends := []int{-1, -7, -impl.MaxValue, impl.MaxValue + 1, math.MinInt, math.MinInt + 1, math.MaxInt}
	badDivisors := append([]int{0}, badDividends...)
	check := func(a int, b int) {
		if got := impl.CeilDiv(a, b); got != 0 {
			t.Errorf("CeilDiv(%d, %d) = %d, want 0", a, b, got)
		}
	}
	for _, b := range badDivisors {
		check(0, b)
		for _, a := range good {
			check(a, b)
		}
		for _, a := range badDividends {
			check(a, b)
		}
	}
	for _, a := range badDividends {
		for _, b := range good {
			check(a, b)
		}
	}
}

func TestMod(t *testing.T) {
	cases := []struct{ p, q, want int }{
		{-1, 7, 6},
		{15, 7, 1},
		{0, 7, 0},
		{6, 7, 6},
		{7, 7, 0},
		{-7, 7, 0},
		{-8, 7, 6},
		{-14, 7, 0},
		{5, 1, 0},
		{-5, 1, 0},
		{0, impl.MaxValue, 0},
		{-1, impl.MaxValue, 999999999999},
		{impl.MaxValue, impl.MaxValue, 0},
		{-impl.MaxValue, impl.MaxValue, 0},
		{impl.MaxValue - 1, impl.MaxValue, 999999999999},
		{impl.MaxValue + 1, impl.MaxValue, 1},
		{math.MaxInt, impl.MaxValue, 36854775807},
		{math.MinInt, impl.MaxValue, 963145224192},
		{math.MaxInt, 10, 7},
		{math.MinInt, 10, 2},
		{math.MinInt, 1, 0},
		{math.MinInt, 2, 0},
		{math.MaxInt, 2, 1},
		{math.MinInt + 1, 2, 1},
	}
	for _, c := range cases {
		if got := impl.Mod(c.p, c.q); got != c.want {
			t.Errorf("Mod(%d, %d) = %d, want %d", c.p, c.q, got, c.want)
		}
	}
}

// The remainders of consecutive integers count from 0 to q-1, again and again.
func TestModCounts(t *testing.T) {
	for q := 1; q < 40; q++ {
		want := 0
		for p := -5 * q; p <= 5*q; p++ {
			if got := impl.Mod(p, q); got != want {
				t.Errorf("Mod(%d, %d) = %d, want %d", p, q, got, want)
			}
			want++
			if want == q {
				want = 0
			}
		}
	}
}

func TestModOutOfRange(t *testing.T) {
	for _, q := range []int{0, -1, -7, -impl.MaxValue, impl.MaxValue + 1, math.MinInt, math.MinInt + 1, math.MaxInt} {
		for _, p := range []int{0, 1, 3, -1, -3, 15, impl.MaxValue, -impl.MaxValue, math.MinInt, math.MaxInt} {
			if got := impl.Mod(p, q); got != 0 {
				t.Errorf("Mod(%d, %d) = %d, want 0", p, q, got)
			}
		}
	}
}

func TestInRange(t *testing.T) {
	cases := []struct {
		n, low, high int
		want         bool
	}{
		{2, 2, 3, true},
		{3, 2, 3, true},
		{1, 2, 3, false},
		{4, 2, 3, false},
		{5, 5, 5, true},
		{4, 5, 5, false},
		{6, 5, 5, false},
		{0, -1, 1, true},
		{-1, -3, -2, false},
		{-2, -3, -2, true},
		{-3, -3, -2, true},
		{-4, -3, -2, false},
		// no number is in a range whose limits are exchanged
		{2, 3, 1, false},
		{3, 3, 1, false},
		{1, 3, 1, false},
		{0, math.MaxInt, math.MinInt, false},
		{impl.MaxValue, 0, impl.MaxValue, true},
		{impl.MaxValue + 1, 0, impl.MaxValue, false},
		{0, math.MinInt, math.MaxInt, true},
		{math.MinInt, math.MinInt, math.MaxInt, true},
		{math.MaxInt, math.MinInt, math.MaxInt, true},
		{math.MinInt, math.MinInt, math.MinInt, true},
		{math.MaxInt, math.MaxInt, math.MaxInt, true},
		{math.MinInt, 0, math.MaxInt, false},
		{math.MaxInt, math.MinInt, 0, false},
		{math.MaxInt, 0, impl.MaxValue, false},
		{math.MinInt, 1, 2, false},
		{math.MinInt, math.MinInt + 1, math.MaxInt, false},
		{math.MaxInt, math.MinInt, math.MaxInt - 1, false},
	}
	for _, c := range cases {
		if got := impl.InRange(c.n, c.low, c.high); got != c.want {
			t.Errorf("InRange(%d, %d, %d) = %v, want %v", c.n, c.low, c.high, got, c.want)
		}
	}
}
