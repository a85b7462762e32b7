package tests

import (
	"bytes"
	"fmt"
	"math"
	"math/big"
	"slices"
	"testing"

	"loop.example/g00516/impl"
)

// notBits lists integers that no element of a selection is, some of them with the low bits of a 0 or a 1.
var notBits = []int{2, 3, -1, -2, 127, 128, 255, 256, 257, 1 << 32, 1<<32 + 1, 1 << 62, impl.MaxValue, -impl.MaxValue,
	math.MaxInt, math.MaxInt - 1, math.MinInt, math.MinInt + 1}

// notRows lists integers that are no number of rows. Those just beyond the limits come first: a test
// that makes selections stops there, before a missing limit costs gigabytes.
var notRows = []int{-1, -2, -impl.MaxRows, -impl.MaxRows - 1, impl.MaxRows + 1, impl.MaxRows + 2, 100, 255, 256, 257, 1 << 32,
	1<<32 + 3, 1 << 62, impl.MaxValue, -impl.MaxValue, math.MaxInt, math.MaxInt - 1, math.MinInt, math.MinInt + 1}

// bits returns the vector that a string of digits stands for.
func bits(digits string) []int {
	v := []int{}
	for _, c := range digits {
		v = append(v, int(c-'0'))
	}
	return v
}

// everySelection lists all selections of this number of rows.
func everySelection(rows int) [][]int {
	list := [][]int{{}}
	for range rows {
		var longer [][]int
		for _, v := range list {
			longer = append(longer, append(slices.Clone(v), 0), append(slices.Clone(v), 1))
		}
		list = longer
	}
	return list
}

// patterns lists selections of this number of rows: nothing, everything, each single row, and mixtures.
func patterns(rows int) [][]int {
	list := [][]int{make([]int, rows), slices.Repeat([]int{1}, rows)}
	for i := range rows {
		one, byFour, squares := make([]int, rows), make([]int, rows), make([]int, rows)
		one[i] = 1
		for j := range rows {
			byFour[j] = (i + j) / 4 % 2
			squares[j] = (i + j*j) % 3 % 2
		}
		list = append(list, one, byFour, squares)
	}
	return list
}

// spoiled lists vectors that are not selections: with one element that is neither 0 nor 1 at each
// place of the first rows rows, and with more than MaxRows elements.
func spoiled(rows int) [][]int {
	var list [][]int
	for i := range rows {
		for _, element := range notBits {
			v := make([]int, rows)
			v[i] = element
			list = append(list, v)
			v = slices.Repeat([]int{1}, rows)
			v[i] = element
			list = append(list, v)
		}
	}
	for _, length := range []int{impl.MaxRows + 1, impl.MaxRows + 2, 72, 128, 255, 256, 257, 300} {
		list = append(list, make([]int, length), slices.Repeat([]int{1}, length))
	}
	return list
}

func TestMaxRows(t *testing.T) {
	if impl.MaxRows != 64 {
		t.Errorf("MaxRows is %d", impl.MaxRows)
	}
}

func TestIsSelection(t *testing.T) {
	cases := []struct {
		v    []int
		rows int
		want bool
	}{
		{nil, 0, true},
		{[]int{}, 0, true},
		{[]int{0}, 1, true},
		{[]int{1}, 1, true},
		{[]int{0, 1, 1}, 3, true},
		{nil, 1, false},
		{[]int{}, 1, false},
		{nil, -1, false},
		{[]int{}, -1, false},
		{[]int{1}, 0, false},
		{[]int{0, 1, 1}, 2, false},
		{[]int{0, 1, 1}, 4, false},
		{[]int{0, 1, 1}, -3, false},
		{[]int{2}, 1, false},
		{[]int{2}, 0, false},
		{[]int{-1}, 1, false},
		// pairs whose sum is that of two elements of a selection
		{[]int{2, 0}, 2, false},
		{[]int{-1, 1}, 2, false},
		{[]int{2, -1}, 2, false},
	}
	for _, c := range cases {
		if got := impl.IsSelection(c.v, c.rows); got != c.want {
			t.Errorf("IsSelection(%v, %d) = %v", c.v, c.rows, got)
		}
	}
}

func TestIsSelectionRows(t *testing.T) {
	for length := range 70 {
		for _, v := range [][]int{make([]int, length), slices.Repeat([]int{1}, length)} {
			for rows := -70; rows <= 70; rows++ {
				want := rows == length && rows <= 64
				if got := impl.IsSelection(v, rows); got != want {
					t.Errorf("IsSelection of %d elements for %d rows is %v", length, rows, got)
				}
			}
			for _, rows := range notRows {
				if impl.IsSelection(v, rows) {
					t.Errorf("IsSelection of %d elements for %d rows is true", length, rows)
				}
			}
		}
	}
	for _, rows := range notRows {
		if impl.IsSelection(nil, rows) {
			t.Errorf("IsSelection of nil for %d rows is true", rows)
		}
		// as many elements as rows, but too many of both
		if rows > 0 && rows < 1000 && impl.IsSelection(make([]int, rows), rows) {
			t.Errorf("IsSelection of %d elements for as many rows is true", rows)
		}
	}
}

func TestIsSelectionElements(t *testing.T) {
	for _, rows := range []int{0, 1, 2, 7, 8, 9, 63, 64} {
		for _, v := range patterns(rows) {
			if !impl.IsSelection(v, rows) {
				t.Errorf("IsSelection(%v, %d) is false", v, rows)
			}
		}
		for _, v := range spoiled(rows) {
			if impl.IsSelection(v, rows) || impl.IsSelection(v, len(v)) {
				t.Errorf("IsSelection(%v) is true for %d or %d rows", v, rows, len(v))
			}
		}
	}
}

func TestUnitSelection(t *testing.T) {
	cases := []struct {
		rows, index int
		want        []int
	}{
		{3, 1, []int{0, 1, 0}},
		{3, 0, []int{1, 0, 0}},
		{3, 2, []int{0, 0, 1}},
		{1, 0, []int{1}},
		{3, 3, nil},
		{3, -1, nil},
		{0, 0, nil},
		{0, -1, nil},
		{1, 1, nil},
		{-1, 0, nil},
		{-1, -1, nil},
		{-1, -2, nil},
		{64, 64, nil},
		{65, 0, nil},
		{65, 64, nil},
	}
	for _, c := range cases {
		if got := impl.UnitSelection(c.rows, c.index); !slices.Equal(got, c.want) {
			t.Errorf("UnitSelection(%d, %d) = %v, want %v", c.rows, c.index, got, c.want)
		}
	}
}

func TestUnitSelectionOfEveryRow(t *testing.T) {
	for rows := -3; rows <= 70; rows++ {
		for index := -3; index <= 75; index++ {
			got := impl.UnitSelection(rows, index)
			want := []int{}
			if rows >= 1 && rows <= 64 && index >= 0 && index < rows {
				want = make([]int, rows)
				want[index] = 1
			}
			if !slices.Equal(got, want) {
				t.Errorf("UnitSelection(%d, %d) = %v", rows, index, got)
			}
		}
	}
	for _, n := range notRows {
		for index := range 70 {
			if got := impl.UnitSelection(n, index); len(got) != 0 {
				t.Fatalf("UnitSelection(%d, %d) = %v", n, index, got)
			}
		}
		for rows := range 70 {
			if got := impl.UnitSelection(rows, n); len(got) != 0 {
				t.Fatalf("UnitSelection(%d, %d) = %v", rows, n, got)
			}
		}
		for _, index := range []int{n - 1, n, n + 1, -n} {
			if got := impl.UnitSelection(n, index); len(got) != 0 {
				t.Fatalf("UnitSelection(%d, %d) = %v", n, index, got)
			}
		}
	}
}

func TestXorSelections(t *testing.T) {
	cases := []struct{ a, b, want []int }{
		{[]int{1, 1}, []int{1, 0}, []int{0, 1}},
		{[]int{0}, []int{0}, []int{0}},
		{[]int{0}, []int{1}, []int{1}},
		{[]int{1}, []int{1}, []int{0}},
		{[]int{0, 0, 1, 1}, []int{0, 1, 0, 1}, []int{0, 1, 1, 0}},
		{nil, nil, nil},
		{nil, []int{}, nil},
		{[]int{}, []int{}, nil},
		// different lengths, also where the missing elements could count as 0
		{nil, []int{1}, nil},
		{[]int{}, []int{0}, nil},
		{[]int{1, 0}, []int{1}, nil},
		{[]int{1, 1}, []int{1, 0, 0}, nil},
		// vectors that are not selections, also where their sums modulo 2 would make one
		{[]int{2}, []int{0}, nil},
		{[]int{2}, []int{2}, nil},
		{[]int{3}, []int{-3}, nil},
		{[]int{1, -1}, []int{1, 1}, nil},
		{[]int{1, 0, 2}, []int{1, 0, 1}, nil},
		{[]int{math.MaxInt}, []int{1}, nil},
		{[]int{math.MinInt}, []int{math.MinInt}, nil},
	}
	for _, c := range cases {
		if got := impl.XorSelections(c.a, c.b); !slices.Equal(got, c.want) {
			t.Errorf("XorSelections(%v, %v) = %v, want %v", c.a, c.b, got, c.want)
		}
		if got := impl.XorSelections(c.b, c.a); !slices.Equal(got, c.want) {
			t.Errorf("XorSelections(%v, %v) = %v, want %v", c.b, c.a, got, c.want)
		}
	}
}

// The sum of two selections is the one in which the rows of exactly one of them are selected, and
// whoever adds a selection twice has added nothing.
func TestXorSelectionsIsItsOwnInverse(t *testing.T) {
	check := func(a []int, b []int) {
		sum := impl.XorSelections(a, b)
		if !impl.IsSelection(sum, len(a)) {
			t.Fatalf("XorSelections(%v, %v) = %v", a, b, sum)
		}
		for i := range sum {
			if (sum[i] == 1) != (a[i] != b[i]) {
				t.Errorf("XorSelections(%v, %v) = %v", a, b, sum)
			}
		}
		if got := impl.XorSelections(sum, b); !slices.Equal(got, a) {
			t.Errorf("%v with %v added twice is %v", a, b, got)
		}
	}
	for rows := range 6 {
		for _, a := range everySelection(rows) {
			for _, b := range everySelection(rows) {
				check(a, b)
			}
		}
	}
	for _, rows := range []int{7, 8, 9, 32, 63, 64} {
		for _, a := range patterns(rows) {
			for _, b := range patterns(rows)[:20] {
				check(a, b)
			}
		}
	}
}

func TestXorSelectionsRejects(t *testing.T) {
	for _, rows := range []int{1, 8, 64} {
		good := make([]int, rows)
		for _, bad := range spoiled(rows) {
			for _, pair := range [][2][]int{{good, bad}, {bad, good}, {bad, bad}, {bad, nil}, {nil, bad}} {
				if got := impl.XorSelections(pair[0], pair[1]); len(got) != 0 {
					t.Errorf("XorSelections(%v, %v) = %v", pair[0], pair[1], got)
				}
			}
		}
	}
	for first := range 67 {
		for second := range 67 {
			got := impl.XorSelections(make([]int, first), make([]int, second))
			if want := first == second && first <= 64; len(got) != 0 && !want || want && len(got) != first {
				t.Errorf("XorSelections of %d and %d elements has %d", first, second, len(got))
			}
		}
	}
}

// referenceRandom computes a random selection as chapter 5 states it, with integers that do not wrap around.
func referenceRandom(seed int, rows int) []int {
	v := []int{}
	for i := range rows {
		h := big.NewInt(int64(referenceHash([]int{seed, i, 41, seed})))
		h.Mul(h, h)
		h.Mod(h, big.NewInt(2147483647))
		v = append(v, int(h.Bit(9)))
	}
	return v
}

func TestRandomSelection(t *testing.T) {
	cases := []struct {
		seed int
		want string
	}{
		{7, ""},
		{77, "0"},
		{7, "1100"},
		{7, "1100011011111010"},
		{77, "0101010101101101100011011111011000110110110101010001100010011110"},
		{0, "111000110111"},
		{1, "000111101011"},
		{-1, "011000111001"},
		{123456789, "010011101011"},
		{impl.Modulus - 1, "011000111001"},
		{impl.Modulus, "111000110111"},
		{impl.Modulus + 1, "000111101011"},
		{impl.MaxValue, "111010111111"},
		{math.MaxInt, "000111101011"},
		{math.MinInt, "011011000110"},
	}
	for _, c := range cases {
		if got := impl.RandomSelection(c.seed, len(c.want)); !slices.Equal(got, bits(c.want)) {
			t.Errorf("RandomSelection(%d, %d) = %v, want %s", c.seed, len(c.want), got, c.want)
		}
	}
}

func TestRandomSelectionAgainstReference(t *testing.T) {
	seeds := slices.Clone(someKeys)
	for seed := range 200 {
		seeds = append(seeds, seed*seed*7919-100)
	}
	for _, seed := range seeds {
		longest := referenceRandom(seed, 64)
		for rows := range 65 {
			got := impl.RandomSelection(seed, rows)
			if !slices.Equal(got, longest[:rows]) || !impl.IsSelection(got, rows) {
				t.Errorf("RandomSelection(%d, %d) = %v, want %v", seed, rows, got, longest[:rows])
			}
		}
	}
}

func TestRandomSelectionOutOfRange(t *testing.T) {
	for _, seed := range someKeys {
		for _, rows := range notRows {
			if got := impl.RandomSelection(seed, rows); len(got) != 0 {
				t.Fatalf("RandomSelection(%d, %d) has %d elements", seed, rows, len(got))
			}
		}
	}
}

// Seeds count modulo Modulus. Other seeds mostly give other selections; that a few of them agree in
// all rows comes from the hash, which the reference follows.
func TestRandomSelectionDependsOnSeed(t *testing.T) {
	different := map[string]bool{}
	for seed := range 500 {
		packed := string(impl.PackSelection(impl.RandomSelection(seed, 64)))
		different[packed] = true
		for _, same := range []int{seed + impl.Modulus, seed - impl.Modulus, seed + 1000*impl.Modulus} {
			if string(impl.PackSelection(impl.RandomSelection(same, 64))) != packed {
				t.Errorf("RandomSelection differs for the seeds %d and %d", same, seed)
			}
		}
	}
	if len(different) < 450 {
		t.Errorf("500 seeds give only %d different selections", len(different))
	}
}

func TestCountSelected(t *testing.T) {
	cases := []struct {
		v    []int
		want int
	}{
		{nil, 0},
		{[]int{}, 0},
		{[]int{0}, 0},
		{[]int{1}, 1},
		{[]int{0, 1, 1, 0, 1}, 3},
		{[]int{1, 0, 0, 1, 0, 0, 0, 0, 1}, 3},
		// the elements need not be those of a selection: only a 1 counts, and it counts once
		{[]int{2}, 0},
		{[]int{-1}, 0},
		{[]int{-1, 1}, 1},
		{[]int{3, 1, 257, 1, 1<<32 + 1}, 2},
		{notBits, 0},
		{append(slices.Clone(notBits), 1), 1},
		{slices.Repeat([]int{1}, 64), 64},
		{slices.Repeat([]int{1}, 65), 65},
		{slices.Repeat([]int{0, 1}, 500), 500},
	}
	for _, c := range cases {
		if got := impl.CountSelected(c.v); got != c.want {
			t.Errorf("CountSelected(%v) = %d, want %d", c.v, got, c.want)
		}
	}
	for rows := range 65 {
		for i := range rows {
			if got := impl.CountSelected(impl.UnitSelection(rows, i)); got != 1 {
				t.Errorf("CountSelected of row %d of %d = %d", i, rows, got)
			}
		}
	}
}

// packedSelections lists selections and the bytes that stand for them.
var packedSelections = []struct {
	digits string
	packed []byte
}{
	{"", []byte{0}},
	{"0", []byte{1, 0}},
	{"1", []byte{1, 1}},
	{"01", []byte{2, 2}},
	{"10", []byte{2, 1}},
	{"0001", []byte{4, 8}},
	{"0000001", []byte{7, 64}},
	{"1111111", []byte{7, 127}},
	{"00000000", []byte{8, 0}},
	{"00000001", []byte{8, 128}},
	{"11111111", []byte{8, 255}},
	{"10110010", []byte{8, 77}},
	{"100100001", []byte{9, 9, 1}},
	{"000000001", []byte{9, 0, 1}},
	{"111111111", []byte{9, 255, 1}},
	{"0000000100000001", []byte{16, 128, 128}},
	{"00000000000000001", []byte{17, 0, 0, 1}},
	{"0101010101101101100011011111011000110110110101010001100010011110",
		[]byte{64, 170, 182, 177, 111, 108, 171, 24, 121}},
	{"1111111111111111111111111111111111111111111111111111111111111111",
		[]byte{64, 255, 255, 255, 255, 255, 255, 255, 255}},
	{"000000000000000000000000000000000000000000000000000000000000001",
		[]byte{63, 0, 0, 0, 0, 0, 0, 0, 64}},
}

// referencePack adds up the bits of a selection one by one.
func referencePack(v []int) []byte {
	packed := make([]byte, 1+(len(v)+7)/8)
	packed[0] = byte(len(v))
	for i, element := range v {
		if element == 1 {
			packed[1+i/8] += []byte{1, 2, 4, 8, 16, 32, 64, 128}[i%8]
		}
	}
	return packed
}

func checkPacked(t *testing.T, v []int, packed []byte) {
	t.Helper()
	if got := impl.PackSelection(v); !bytes.Equal(got, packed) {
		t.Errorf("PackSelection(%v) = %v, want %v", v, got, packed)
	}
	if got, ok := impl.UnpackSelection(packed); !ok || !slices.Equal(got, v) {
		t.Errorf("UnpackSelection(%v) = %v, %v, want %v", packed, got, ok, v)
	}
}

// rejectPacked reports an error if b is unpacked.
func rejectPacked(t *testing.T, b []byte) {
	t.Helper()
	if got, ok := impl.UnpackSelection(b); ok || len(got) != 0 {
		t.Errorf("UnpackSelection(%v) = %v, %v, want none", b, got, ok)
	}
}

func TestPackSelection(t *testing.T) {
	for _, c := range packedSelections {
		checkPacked(t, bits(c.digits), c.packed)
	}
	// no rows are a selection too: that of nothing, not the lack of one
	checkPacked(t, nil, []byte{0})
}

// Every selection is the one that is unpacked from its bytes.
func TestUnpackInvertsPack(t *testing.T) {
	for rows := range 12 {
		for _, v := range everySelection(rows) {
			checkPacked(t, v, referencePack(v))
		}
	}
	for rows := range 65 {
		for _, v := range patterns(rows) {
			checkPacked(t, v, referencePack(v))
		}
	}
}

func TestPackSelectionRejects(t *testing.T) {
	for _, rows := range []int{1, 2, 7, 8, 9, 63, 64} {
		for _, v := range spoiled(rows) {
			if got := impl.PackSelection(v); len(got) != 0 {
				t.Errorf("PackSelection(%v) = %v, want no bytes", v, got)
			}
		}
	}
}

func TestUnpackSelectionRejects(t *testing.T) {
	for _, b := range [][]byte{nil, {}, {1}, {8}, {9, 9}, {64}, {0, 0}, {0, 1}, {1, 0, 0}, {1, 1, 0}, {8, 255, 0}, {9, 9, 1, 0},
		{1, 2}, {1, 3}, {1, 128}, {7, 128}, {9, 9, 3}, {9, 9, 2}, {9, 9, 128}, {255}, {65, 0}} {
		rejectPacked(t, b)
	}
	for rows := range 65 {
		packed := referencePack(slices.Repeat([]int{1}, rows))
		for length := range len(packed) {
			rejectPacked(t, packed[:length])
		}
		for _, more := range []int{1, 2, 7, 8, 100} {
			rejectPacked(t, append(slices.Clone(packed), make([]byte, more)...))
		}
		// each unused bit, with all used ones set and with none set
		for bit := rows % 8; bit > 0 && bit < 8; bit++ {
			for _, used := range []int{0, 1} {
				b := referencePack(slices.Repeat([]int{used}, rows))
				b[len(b)-1] += 1 << bit
				rejectPacked(t, b)
			}
		}
	}
}

// A number of elements beyond MaxRows is rejected, however many bytes follow it and whatever they are.
func TestUnpackSelectionBeyondMaxRows(t *testing.T) {
	for count := impl.MaxRows + 1; count <= 255; count++ {
		for length := range 40 {
			for _, filling := range []byte{0, 1, 255} {
				rejectPacked(t, append([]byte{byte(count)}, bytes.Repeat([]byte{filling}, length)...))
			}
		}
		rejectPacked(t, referencePack(make([]int, count)))
		rejectPacked(t, referencePack(slices.Repeat([]int{1}, count)))
	}
}

// All strings of one and two bytes, and all of three that announce two bytes of elements.
func TestUnpackSelectionShortStrings(t *testing.T) {
	valid := map[string][]int{}
	for rows := range 11 {
		for _, v := range everySelection(rows) {
			valid[string(referencePack(v))] = v
		}
	}
	check := func(b []byte) {
		got, ok := impl.UnpackSelection(b)
		want, wantOk := valid[string(b)]
		if ok != wantOk || !slices.Equal(got, want) {
			t.Errorf("UnpackSelection(%v) = %v, %v, want %v, %v", b, got, ok, want, wantOk)
		}
	}
	for first := range 256 {
		check([]byte{byte(first)})
		for second := range 256 {
			check([]byte{byte(first), byte(second)})
		}
	}
	for _, first := range []byte{8, 9, 10} {
		for second := range 256 {
			for third := range 256 {
				check([]byte{first, byte(second), byte(third)})
			}
		}
	}
}

// referenceSelect is the exclusive or of the rows whose index has a 1 in v.
func referenceSelect(rows [][]byte, v []int) []byte {
	var chosen [][]byte
	for i, element := range v {
		if element == 1 && i < len(rows) {
			chosen = append(chosen, rows[i])
		}
	}
	return referenceXor(chosen...)
}

func TestSelectXor(t *testing.T) {
	three := [][]byte{{1}, {2}, {4}}
	cases := []struct {
		rows [][]byte
		v    []int
		want []byte
	}{
		{three, []int{1, 0, 1}, []byte{5}},
		{three, []int{0, 1, 0}, []byte{2}},
		{three, []int{1, 1, 1}, []byte{7}},
		// nothing is selected, so there are no bytes, not even zero bytes
		{three, []int{0, 0, 0}, nil},
		{three, nil, nil},
		{three, []int{}, nil},
		{nil, nil, nil},
		{nil, []int{1, 1}, nil},
		{[][]byte{}, []int{}, nil},
		// more rows than elements, and more elements than rows
		{three, []int{0, 1}, []byte{2}},
		{three, []int{1}, []byte{1}},
		{three, []int{0, 0, 1, 1, 1}, []byte{4}},
		{three, []int{0, 0, 0, 1}, nil},
		{[][]byte{{7}}, slices.Repeat([]int{1}, 100), []byte{7}},
		// elements other than 0 and 1 select nothing
		{three, []int{2, -1, 1}, []byte{4}},
		{three, []int{math.MaxInt, math.MinInt, 257}, nil},
		{three, []int{1<<32 + 1, 1, 3}, []byte{2}},
		// rows of different lengths, of which those count that are selected
		{[][]byte{{1, 2}, {3}, {9, 9, 9}}, []int{1, 1, 0}, []byte{2, 2}},
		{[][]byte{{3}, {1, 2}, {9, 9, 9}}, []int{1, 1, 0}, []byte{2, 2}},
		{[][]byte{{3}, {1, 2}, {9, 9, 9}}, []int{1, 0, 1}, []byte{10, 9, 9}},
		{[][]byte{nil, {5, 0}, {}}, []int{1, 1, 1}, []byte{5, 0}},
		{[][]byte{nil, {5, 0}, {}}, []int{1, 0, 1}, nil},
		{[][]byte{{6, 6}, {6, 6}}, []int{1, 1}, []byte{0, 0}},
		{[][]byte{{0, 0}, {6, 6}}, []int{1, 0}, []byte{0, 0}},
	}
	for _, c := range cases {
		if got := impl.SelectXor(c.rows, c.v); !bytes.Equal(got, c.want) {
			t.Errorf("SelectXor(%v, %v) = %v, want %v", c.rows, c.v, got, c.want)
		}
	}
}

// A selection selects the exclusive or of its rows, whatever rows there are and however many.
func TestSelectXorAgainstReference(t *testing.T) {
	vectors := [][]int{nil, {}, {1}, {0, 1}, notBits, append([]int{1, 1}, notBits...)}
	for _, rows := range []int{3, 8, 9, 64} {
		vectors = append(vectors, patterns(rows)...)
	}
	for _, length := range []int{65, 100, 501, 600} {
		vectors = append(vectors, slices.Repeat([]int{1}, length), slices.Repeat([]int{0, 1, 1}, length/3))
	}
	lists := someStringLists()
	for _, rows := range []int{1, 8, 63, 64, 65, 70} {
		var list [][]byte
		for i := range rows {
			list = append(list, mixed(i%7*4, i))
		}
		lists = append(lists, list)
	}
	for _, list := range lists {
		for _, v := range vectors {
			if got, want := impl.SelectXor(list, v), referenceSelect(list, v); !bytes.Equal(got, want) {
				t.Errorf("SelectXor of %d rows with %v = %v, want %v", len(list), v, got, want)
			}
		}
	}
}

// A selection of one row selects that row, and the sum of two selections selects the sum of what they select.
func TestSelectXorOfUnitsAndSums(t *testing.T) {
	for _, count := range []int{1, 2, 8, 9, 63, 64} {
		var rows [][]byte
		for i := range count {
			rows = append(rows, mixed(24, 11*i+count))
		}
		for i, row := range rows {
			if got := impl.SelectXor(rows, impl.UnitSelection(count, i)); !bytes.Equal(got, row) {
				t.Errorf("SelectXor of row %d of %d = %v, want %v", i, count, got, row)
			}
			a, b := impl.RandomSelection(i, count), impl.RandomSelection(i+1000, count)
			want := impl.XorBytes(impl.SelectXor(rows, a), impl.SelectXor(rows, b))
			got := impl.SelectXor(rows, impl.XorSelections(a, b))
			if !bytes.Equal(impl.PadTo(got, 24), impl.PadTo(want, 24)) {
				t.Errorf("SelectXor of the sum of %v and %v = %v, want %v", a, b, got, want)
			}
			// the selection that is read by adding a random one and its sum with one row, as the servers do
			hidden := impl.XorSelections(a, impl.UnitSelection(count, i))
			if got := impl.XorBytes(impl.SelectXor(rows, a), impl.SelectXor(rows, hidden)); !bytes.Equal(impl.PadTo(got, 24), row) {
				t.Errorf("the selections %v and %v give %v, want row %d", a, hidden, got, i)
			}
		}
	}
}

func TestSelectionsLeaveArguments(t *testing.T) {
	for _, content := range append([][]int{{}, {2}, {1, -1, 0}, make([]int, 65)}, patterns(9)...) {
		v, unchanged := roomy(content)
		same := impl.IsSelection(v, len(v)) == impl.IsSelection(content, len(content)) &&
			impl.CountSelected(v) == impl.CountSelected(content)
		if !same || !unchanged() {
			t.Errorf("what %v is depends on the spare capacity, or a function changes it", content)
		}
	}
}

// Ones and rows in the spare capacity of an argument are not part of it.
func TestSelectionsEndAtTheirLength(t *testing.T) {
	v := slices.Repeat([]int{1}, 70)
	rows := [][]byte{{1}, {2}, {4}, {8}}
	if !impl.IsSelection(v[:2], 2) || impl.IsSelection(v[:2], 3) || impl.IsSelection(v[:2], 70) {
		t.Error("IsSelection goes by the spare capacity")
	}
	if got := impl.CountSelected(v[:2]); got != 2 {
		t.Errorf("CountSelected of two ones = %d", got)
	}
	if got := impl.XorSelections(v[:2], v[:2:2]); !slices.Equal(got, []int{0, 0}) {
		t.Errorf("XorSelections of two ones and two ones = %v", got)
	}
	if got := impl.PackSelection(v[:2]); !bytes.Equal(got, []byte{2, 3}) {
		t.Errorf("PackSelection of two ones = %v", got)
	}
	if got := impl.SelectXor(rows, v[:2]); !bytes.Equal(got, []byte{3}) {
		t.Errorf("SelectXor with two ones = %v", got)
	}
	if got := impl.SelectXor(rows[:3], v); !bytes.Equal(got, []byte{7}) {
		t.Errorf("SelectXor of three rows = %v", got)
	}
}

func TestXorSelectionsCopies(t *testing.T) {
	contents := [][]int{{}, {1}, {0}, {2}, {1, 0, 1}, {0, 0, 0}, {1, 1, -1}, make([]int, 64), slices.Repeat([]int{1}, 64), make([]int, 65)}
	for _, first := range contents {
		for _, second := range contents {
			a, unchangedA := roomy(first)
			b, unchangedB := roomy(second)
			got := impl.XorSelections(a, b)
			if !slices.Equal(got, impl.XorSelections(first, second)) {
				t.Errorf("XorSelections(%v, %v) with spare capacity = %v", first, second, got)
			}
			checkFresh(t, "XorSelections", got, func() bool { return unchangedA() && unchangedB() })
		}
	}
	// both arguments may be the same memory
	v, unchanged := roomy([]int{1, 1, 0, 1})
	if got := impl.XorSelections(v[:3], v[1:4]); !slices.Equal(got, []int{0, 1, 1}) || !unchanged() {
		t.Errorf("XorSelections of parts of one slice = %v", got)
	}
}

func TestPackAndUnpackCopy(t *testing.T) {
	for _, content := range append([][]int{{}, {2}, make([]int, 64), make([]int, 65)}, patterns(9)...) {
		v, unchanged := roomy(content)
		got := impl.PackSelection(v)
		if !bytes.Equal(got, impl.PackSelection(content)) {
			t.Errorf("PackSelection(%v) with spare capacity = %v", content, got)
		}
		checkFresh(t, "PackSelection", got, unchanged)
	}
	for _, content := range [][]byte{{}, {0}, {1, 1}, {1, 2}, {9, 9, 1}, {9, 9}, {9}, {65}, {64, 1, 2, 3, 4, 5, 6, 7, 8}} {
		b, unchanged := roomy(content)
		got, ok := impl.UnpackSelection(b)
		want, wantOk := impl.UnpackSelection(content)
		if ok != wantOk || !slices.Equal(got, want) {
			t.Errorf("UnpackSelection(%v) with spare capacity = %v, %v", content, got, ok)
		}
		checkFresh(t, "UnpackSelection", got, unchanged)
	}
}

// A result that is written to is not what a later call returns.
func TestSelectionsAreFresh(t *testing.T) {
	packed := []byte{9, 9, 1}
	results := []func() []int{
		func() []int { return impl.UnitSelection(9, 4) },
		func() []int { return impl.UnitSelection(0, 0) },
		func() []int { return impl.RandomSelection(7, 16) },
		func() []int { return impl.RandomSelection(7, 0) },
		func() []int { return impl.RandomSelection(7, 65) },
		func() []int { return impl.XorSelections([]int{1, 1}, []int{1, 0}) },
		func() []int { v, _ := impl.UnpackSelection(packed); return v },
	}
	for i, result := range results {
		checkAgain(t, fmt.Sprintf("result %d", i), result)
	}
	if !bytes.Equal(packed, []byte{9, 9, 1}) {
		t.Errorf("UnpackSelection changes its argument to %v", packed)
	}
}

func TestSelectXorCopies(t *testing.T) {
	for _, content := range someStringLists() {
		for _, selected := range [][]int{{}, {1}, {0, 1}, {1, 1, 1}, {0, 0, 0, 0}, {2, 1, -1}, slices.Repeat([]int{1}, 60)} {
			rows, unchangedRows := roomyList(content)
			v, unchangedV := roomy(selected)
			got := impl.SelectXor(rows, v)
			// neither the rows behind the list nor the elements behind v are selected
			if !bytes.Equal(got, referenceSelect(content, selected)) {
				t.Errorf("SelectXor of %d rows with %v and spare capacity = %v", len(rows), selected, got)
			}
			checkFresh(t, "SelectXor", got, func() bool { return unchangedRows() && unchangedV() })
		}
	}
}
