package tests

import (
	"bytes"
	"math"
	"slices"
	"testing"

	"loop.example/g00516/impl"
)

// greatestSeed is the greatest seed of a correction.
const greatestSeed = 4294967295

// notSides lists integers that are no side of a tree, some of them with a side in their low bits.
var notSides = []int{-1, 2, 3, -2, 100, 128, 256, 257, 1 << 32, 1<<32 + 1, 1 << 62, 1<<62 + 1, impl.MaxValue, -impl.MaxValue,
	math.MaxInt, math.MaxInt - 1, math.MinInt, math.MinInt + 1}

// someRoots lists roots that keys may have, with those at the limits.
var someRoots = []int{0, 1, 5, 77, 88, 123456789, 1 << 30, impl.Modulus - 2, impl.Modulus - 1}

// notRoots lists integers that are no root, some of them with one in their low bits.
var notRoots = []int{-1, -2, -77, -impl.Modulus, -impl.Modulus - 1, 1 - impl.Modulus, impl.Modulus, impl.Modulus + 1, impl.Modulus + 77,
	1 << 31, 1<<32 - 1, 1 << 32, 1<<32 + 5, impl.MaxValue, -impl.MaxValue, math.MaxInt, math.MaxInt - 1, math.MinInt, math.MinInt + 1}

// notCorrectionSeeds lists integers that are no seed of a correction.
var notCorrectionSeeds = []int{-1, -2, -greatestSeed, -greatestSeed - 1, greatestSeed + 1, greatestSeed + 2, 1<<32 + 300, 1 << 33, 1 << 62,
	impl.MaxValue, -impl.MaxValue, math.MaxInt, math.MaxInt - 1, math.MinInt, math.MinInt + 1}

// rootPairs lists roots of both servers, equal ones among them.
var rootPairs = [][2]int{{77, 88}, {88, 77}, {5, 5}, {0, 0}, {0, 1}, {0, impl.Modulus - 1}, {impl.Modulus - 1, 0}, {1, impl.Modulus - 1},
	{impl.Modulus - 1, impl.Modulus - 1}, {123456789, 987654321}, {impl.Modulus - 2, 1 << 30}}

// keyOf returns the point key with these parts.
func keyOf(root int, bit int, corrections ...impl.Correction) impl.PointKey {
	return impl.PointKey{Root: root, Bit: bit, Corrections: corrections}
}

// correction returns the correction with these parts.
func correction(seed int, left int, right int) impl.Correction {
	return impl.Correction{Seed: seed, Left: left, Right: right}
}

// sameKey reports whether two keys have the same parts; it does not use the package under test.
func sameKey(a impl.PointKey, b impl.PointKey) bool {
	return a.Root == b.Root && a.Bit == b.Bit && slices.Equal(a.Corrections, b.Corrections)
}

// copyKey returns a copy of k with corrections of its own, without spare capacity.
func copyKey(k impl.PointKey) impl.PointKey {
	return keyOf(k.Root, k.Bit, slices.Clip(slices.Clone(k.Corrections))...)
}

// corrected returns a copy of k with another correction at this place.
func corrected(k impl.PointKey, place int, c impl.Correction) impl.PointKey {
	k = copyKey(k)
	k.Corrections[place] = c
	return k
}

// someCorrections returns this number of corrections with seeds and bits of every kind.
func someCorrections(count int) []impl.Correction {
	seeds := []int{300, greatestSeed, 0, impl.Modulus, 1 << 31, 127, 128, impl.Modulus - 1}
	var list []impl.Correction
	for i := range count {
		list = append(list, correction(seeds[i%len(seeds)], (i+1)/2%2, i/3%2))
	}
	return list
}

// goodKeys lists valid keys of every depth: made ones, and others that no pair has.
func goodKeys() []impl.PointKey {
	list := []impl.PointKey{keyOf(5, 1, correction(300, 1, 0)), keyOf(0, 0, correction(0, 0, 0)), keyOf(0, 1, correction(0, 0, 0))}
	for depth := 1; depth <= 6; depth++ {
		a, b, _ := impl.MakePointKeys(depth, 1, 77, 88)
		list = append(list, a, b)
		for _, root := range someRoots {
			list = append(list, keyOf(root, depth%2, someCorrections(depth)...))
		}
		most := slices.Repeat([]impl.Correction{correction(greatestSeed, 1, 1)}, depth)
		list = append(list, keyOf(impl.Modulus-1, 0, most...), keyOf(impl.Modulus-1, 1, most...),
			keyOf(9, 1, make([]impl.Correction, depth)...))
	}
	return list
}

// spoiledKeys lists keys that differ from valid ones in a single part, which is out of its range.
func spoiledKeys() []impl.PointKey {
	var list []impl.PointKey
	for _, depth := range []int{1, 2, 3, 6} {
		good := keyOf(5, 1, someCorrections(depth)...)
		for _, root := range notRoots {
			list = append(list, keyOf(root, 0, good.Corrections...), keyOf(root, 1, good.Corrections...))
		}
		for _, bit := range notBits {
			list = append(list, keyOf(5, bit, good.Corrections...))
		}
		for _, place := range slices.Compact([]int{0, depth / 2, depth - 1}) {
			c := good.Corrections[place]
			for _, seed := range notCorrectionSeeds {
				list = append(list, corrected(good, place, correction(seed, c.Left, c.Right)))
			}
			for _, bit := range notBits {
				list = append(list, corrected(good, place, correction(c.Seed, bit, c.Right)),
					corrected(good, place, correction(c.Seed, c.Left, bit)))
			}
		}
	}
	return list
}

// otherDepths lists keys without corrections and with a few too many.
func otherDepths() []impl.PointKey {
	list := []impl.PointKey{{}, keyOf(5, 1), {Root: 5, Bit: 1, Corrections: []impl.Correction{}}, keyOf(0, 0), keyOf(impl.Modulus-1, 1)}
	for _, count := range []int{7, 8, 9} {
		list = append(list, keyOf(5, 0, someCorrections(count)...), keyOf(5, 1, someCorrections(count)...),
			keyOf(0, 1, make([]impl.Correction, count)...))
	}
	return list
}

// longKeys lists keys with far too many corrections. A test must stop at the keys of otherDepths first,
// before a missing limit costs gigabytes.
func longKeys() []impl.PointKey {
	var list []impl.PointKey
	for _, count := range []int{31, 32, 33, 62, 63, 64, 65, 70, 255, 256, 257, 1 << 16, 1<<16 + 3} {
		list = append(list, keyOf(5, count%2, someCorrections(count)...), keyOf(0, 1, make([]impl.Correction, count)...))
	}
	return list
}

// badKeys lists invalid keys of every kind but those with far too many corrections.
func badKeys() []impl.PointKey {
	list := slices.Concat(spoiledKeys(), otherDepths())
	// more than one part is out of its range
	return append(list, keyOf(-1, 2), keyOf(-1, 2, correction(-1, 2, -1)), keyOf(impl.Modulus, 0, make([]impl.Correction, 7)...),
		keyOf(math.MinInt, math.MinInt, correction(math.MinInt, math.MinInt, math.MinInt)),
		keyOf(math.MaxInt, math.MaxInt, slices.Repeat([]impl.Correction{correction(math.MaxInt, math.MaxInt, math.MaxInt)}, 6)...))
}

// referenceBit is the control bit of a child.
func referenceBit(seed int, side int) int {
	return int(referenceSquare(seed, 53, side, 0).Bit(7))
}

// referenceNode is what one server has at a child, as chapter 10 states it.
func referenceNode(seed int, bit int, side int, c impl.Correction) (int, int) {
	switch {
	case bit == 1 && side == 0:
		return referenceChild(seed, 0) ^ c.Seed, referenceBit(seed, 0) ^ c.Left
	case bit == 1:
		return referenceChild(seed, 1) ^ c.Seed, referenceBit(seed, 1) ^ c.Right
	}
	return referenceChild(seed, side), referenceBit(seed, side)
}

// referenceLeaf is the bit at the end of a path, each of its digits being a side.
func referenceLeaf(k impl.PointKey, path string) int {
	seed, bit := k.Root, k.Bit
	for i, digit := range path {
		seed, bit = referenceNode(seed, bit, int(digit-'0'), k.Corrections[i])
	}
	return bit
}

// referenceKeySelection lists the bits of all leaves of a valid key.
func referenceKeySelection(k impl.PointKey) []int {
	depth := len(k.Corrections)
	v := []int{}
	for index := range 1 << depth {
		v = append(v, referenceLeaf(k, pathTo(depth, index)))
	}
	return v
}

// referenceCorrections lists the corrections of both keys, as chapter 10 states them.
func referenceCorrections(path string, a int, b int) []impl.Correction {
	var list []impl.Correction
	bitA, bitB := 0, 1
	for _, digit := range path {
		side := int(digit - '0')
		other := 1 - side
		onSide := referenceBit(a, side) ^ referenceBit(b, side) ^ 1
		beside := referenceBit(a, other) ^ referenceBit(b, other)
		c := correction(referenceChild(a, other)^referenceChild(b, other), onSide, beside)
		if digit == '1' {
			c.Left, c.Right = beside, onSide
		}
		list = append(list, c)
		a, bitA = referenceNode(a, bitA, side, c)
		b, bitB = referenceNode(b, bitB, side, c)
	}
	return list
}

// checkKeys reports an error if MakePointKeys does not return keys with these corrections, and returns them.
func checkKeys(t *testing.T, depth int, point int, roots [2]int, want []impl.Correction) (impl.PointKey, impl.PointKey) {
	t.Helper()
	a, b, ok := impl.MakePointKeys(depth, point, roots[0], roots[1])
	if !ok || !sameKey(a, keyOf(roots[0], 0, want...)) || !sameKey(b, keyOf(roots[1], 1, want...)) {
		t.Errorf("MakePointKeys(%d, %d, %d, %d) = %v, %v, %v, want corrections %v", depth, point, roots[0], roots[1], a, b, ok, want)
	}
	return a, b
}

// rejectKeys stops the test if there are keys: the next ones might be far too long.
func rejectKeys(t *testing.T, depth int, point int, rootA int, rootB int) {
	t.Helper()
	a, b, ok := impl.MakePointKeys(depth, point, rootA, rootB)
	if ok || !sameKey(a, impl.PointKey{}) || !sameKey(b, impl.PointKey{}) {
		t.Fatalf("MakePointKeys(%d, %d, %d, %d) = %v, %v, %v, want none", depth, point, rootA, rootB, a, b, ok)
	}
}

// checkDiffer reports an error if the selections of a and b do not differ at the point, or do at another index.
func checkDiffer(t *testing.T, a impl.PointKey, b impl.PointKey, depth int, point int) {
	t.Helper()
	if sum := impl.XorSelections(impl.EvaluateAll(a), impl.EvaluateAll(b)); !slices.Equal(sum, unit(1<<depth, point)) {
		t.Errorf("the selections of %v and %v add up to %v, want only the point %d", a, b, sum, point)
	}
	for index := range 1 << depth {
		if differ := impl.EvaluatePoint(a, index) != impl.EvaluatePoint(b, index); differ != (index == point) {
			t.Errorf("at %d the keys %v and %v for the point %d differ: %v", index, a, b, point, differ)
		}
	}
}

// checkSelection reports an error if the bits of a key, all together or one by one, are not the wanted ones.
func checkSelection(t *testing.T, k impl.PointKey, want []int) {
	t.Helper()
	if got := impl.EvaluateAll(k); !slices.Equal(got, want) {
		t.Errorf("EvaluateAll(%v) = %v, want %v", k, got, want)
	}
	for index, bit := range want {
		if got := impl.EvaluatePoint(k, index); got != bit {
			t.Errorf("EvaluatePoint(%v, %d) = %d, want %d", k, index, got, bit)
		}
	}
}

func TestEvaluateNode(t *testing.T) {
	cases := []struct {
		seed, bit, side   int
		c                 impl.Correction
		wantSeed, wantBit int
	}{
		{5, 0, 0, correction(3, 1, 0), 637780074, 0},
		{5, 0, 0, correction(3, 0, 1), 637780074, 0},
		{5, 0, 1, correction(3, 1, 1), 1725452867, 1},
		{5, 1, 0, correction(3, 1, 0), 637780073, 1},
		{5, 1, 0, correction(3, 0, 1), 637780073, 0},
		{5, 1, 1, correction(3, 1, 0), 1725452864, 1},
		{5, 1, 1, correction(3, 0, 1), 1725452864, 0},
		{9, 1, 1, impl.Correction{}, 58521909, 1},
		// a bit other than 1 corrects nothing, whether it is odd or not
		{5, 2, 0, correction(3, 1, 1), 637780074, 0},
		{5, -1, 1, correction(3, 1, 1), 1725452867, 1},
		{5, 3, 0, correction(3, 1, 1), 637780074, 0},
		// seeds and corrections that are not in their ranges
		{-1, 1, 0, correction(greatestSeed, 0, 1), 2826960738, 0},
		{0, 1, 1, correction(-1, 2, -1), -991289251, -1},
		{math.MinInt, 1, 0, correction(math.MinInt, math.MaxInt, 0), -9223372035114064558, math.MaxInt},
		{math.MaxInt, 1, 1, correction(math.MaxInt, 0, math.MinInt), 9223372035609345871, math.MinInt},
		{impl.Modulus, 1, 0, correction(impl.Modulus, 1, 1), 1220584129, 1},
		// no such side
		{5, 0, -1, correction(3, 1, 1), 0, 0},
		{5, 1, -1, correction(3, 1, 1), 0, 0},
		{5, 0, 2, correction(3, 1, 1), 0, 0},
		{5, 1, 2, correction(3, 1, 1), 0, 0},
		{5, 2, 2, correction(3, 1, 1), 0, 0},
	}
	for _, c := range cases {
		if seed, bit := impl.EvaluateNode(c.seed, c.bit, c.side, c.c); seed != c.wantSeed || bit != c.wantBit {
			t.Errorf("EvaluateNode(%d, %d, %d, %v) = %d, %d, want %d, %d", c.seed, c.bit, c.side, c.c, seed, bit, c.wantSeed, c.wantBit)
		}
	}
}

// nodeCorrections lists corrections of every kind, also with parts out of their ranges.
var nodeCorrections = []impl.Correction{{}, {Seed: 3}, {Left: 1}, {Right: 1}, {Seed: 3, Left: 1}, {Seed: 3, Right: 1},
	{Seed: greatestSeed, Left: 1, Right: 1}, {Seed: greatestSeed + 1}, {Seed: -1, Left: 2, Right: -1}, {Left: -1, Right: 2},
	{Left: 3, Right: 4},
	{Seed: math.MinInt, Left: math.MinInt, Right: math.MaxInt}, {Seed: math.MaxInt, Left: math.MaxInt, Right: math.MinInt}}

func TestEvaluateNodeAgainstReference(t *testing.T) {
	for _, seed := range someKeys {
		for _, bit := range append([]int{0, 1}, notBits...) {
			for side := range 2 {
				for _, c := range nodeCorrections {
					wantSeed, wantBit := impl.ChildSeed(seed, side), impl.ControlBit(seed, side)
					if bit == 1 {
						wantSeed, wantBit = wantSeed^c.Seed, wantBit^[]int{c.Left, c.Right}[side]
					}
					if s, b := impl.EvaluateNode(seed, bit, side, c); s != wantSeed || b != wantBit {
						t.Errorf("EvaluateNode(%d, %d, %d, %v) = %d, %d, want %d, %d", seed, bit, side, c, s, b, wantSeed, wantBit)
					}
				}
			}
		}
	}
	for _, seed := range someKeys {
		for bit := range 2 {
			for side := range 2 {
				for _, c := range nodeCorrections {
					wantSeed, wantBit := referenceNode(seed, bit, side, c)
					if s, b := impl.EvaluateNode(seed, bit, side, c); s != wantSeed || b != wantBit {
						t.Errorf("EvaluateNode(%d, %d, %d, %v) = %d, %d, want %d, %d", seed, bit, side, c, s, b, wantSeed, wantBit)
					}
				}
			}
		}
	}
}

func TestEvaluateNodeOtherSides(t *testing.T) {
	for _, side := range notSides {
		for _, seed := range someKeys {
			for _, bit := range []int{0, 1, 2, -1, math.MaxInt, math.MinInt} {
				for _, c := range nodeCorrections {
					if s, b := impl.EvaluateNode(seed, bit, side, c); s != 0 || b != 0 {
						t.Errorf("EvaluateNode(%d, %d, %d, %v) = %d, %d", seed, bit, side, c, s, b)
					}
				}
			}
		}
	}
}

func TestMakePointKeys(t *testing.T) {
	cases := []struct {
		depth, point int
		roots        [2]int
		want         [][3]int
		selA, selB   string
	}{
		{1, 0, [2]int{77, 88}, [][3]int{{1491722481, 0, 1}}, "11", "01"},
		{1, 1, [2]int{77, 88}, [][3]int{{830128620, 1, 0}}, "11", "10"},
		{2, 2, [2]int{0, 2147483646}, [][3]int{{1623154083, 0, 0}, {1428077508, 0, 1}}, "1010", "1000"},
		{2, 1, [2]int{2147483646, 0}, [][3]int{{551919688, 1, 1}, {758962049, 0, 1}}, "1001", "1101"},
		// equal roots
		{3, 5, [2]int{9, 9}, [][3]int{{0, 0, 1}, {0, 1, 0}, {0, 0, 1}}, "11010000", "11010100"},
		// the point, and those that differ from it in the most and in the least significant bit
		{4, 11, [2]int{77, 88}, [][3]int{{830128620, 1, 0}, {1771527333, 1, 0}, {1356387024, 1, 0}, {1236816558, 1, 0}},
			"1100011000000011", "1100011000010011"},
		{4, 3, [2]int{77, 88}, [][3]int{{1491722481, 0, 1}, {1680162813, 1, 0}, {91781036, 0, 1}, {354729191, 1, 0}},
			"0111010011011111", "0110010011011111"},
		{4, 10, [2]int{77, 88}, [][3]int{{830128620, 1, 0}, {1771527333, 1, 0}, {1356387024, 1, 0}, {125321654, 0, 1}},
			"1111010111110011", "1111010111010011"},
		{6, 0, [2]int{0, 1}, [][3]int{{1898848018, 1, 0}, {2118387298, 0, 0}, {1134153098, 0, 1}, {357776807, 0, 1},
			{1277485501, 0, 1}, {2035190088, 0, 0}},
			"1011011001111111000110100000101100011110001010111000100100011001",
			"0011011001111111000110100000101100011110001010111000100100011001"},
		{6, 44, [2]int{5, 6}, [][3]int{{63300964, 1, 0}, {1920984271, 1, 1}, {555227866, 0, 1}, {1660610568, 1, 0},
			{655960361, 0, 1}, {1681589520, 1, 0}},
			"0001010010001010010111010100110000101001111101000001100111110100",
			"0001010010001010010111010100110000101001111111000001100111110100"},
		{6, 63, [2]int{123456789, 987654321}, [][3]int{{1661615178, 1, 0}, {2142937802, 1, 1}, {1665584066, 0, 0},
			{52771215, 0, 0}, {927938146, 1, 0}, {1527055808, 1, 0}},
			"0101001100001010111011001010010110010000100010100100110010100101",
			"0101001100001010111011001010010110010000100010100100110010100100"},
	}
	for _, c := range cases {
		var want []impl.Correction
		for _, parts := range c.want {
			want = append(want, correction(parts[0], parts[1], parts[2]))
		}
		a, b := checkKeys(t, c.depth, c.point, c.roots, want)
		checkSelection(t, a, bits(c.selA))
		checkSelection(t, b, bits(c.selB))
	}
}

func TestMakePointKeysAgainstReference(t *testing.T) {
	for depth := 1; depth <= 6; depth++ {
		for point := range 1 << depth {
			for _, roots := range rootPairs {
				checkKeys(t, depth, point, roots, referenceCorrections(pathTo(depth, point), roots[0], roots[1]))
			}
		}
	}
}

// What two keys select differs at the point, and nowhere else, whatever the roots are.
func TestPointKeysDifferExactlyAtThePoint(t *testing.T) {
	for depth := 1; depth <= 6; depth++ {
		for point := range 1 << depth {
			for _, roots := range rootPairs {
				a, b, ok := impl.MakePointKeys(depth, point, roots[0], roots[1])
				if !ok || !impl.IsValidPointKey(a) || !impl.IsValidPointKey(b) {
					t.Errorf("MakePointKeys(%d, %d, %d, %d) = %v, %v, %v", depth, point, roots[0], roots[1], a, b, ok)
				}
				checkDiffer(t, a, b, depth, point)
			}
		}
	}
	for root := range 300 {
		depth := 1 + root%6
		point := (root * root) % (1 << depth)
		a, b, _ := impl.MakePointKeys(depth, point, root*7919, root*104729+1)
		checkDiffer(t, a, b, depth, point)
	}
}

// On the path to the point the bits of both servers differ; everywhere else they have the same node.
func TestPointKeysDifferOnlyOnThePath(t *testing.T) {
	for depth := 1; depth <= 6; depth++ {
		for point := range 1 << depth {
			for _, roots := range rootPairs[:5] {
				a, b, _ := impl.MakePointKeys(depth, point, roots[0], roots[1])
				for index := range 1 << depth {
					seedA, bitA, seedB, bitB := a.Root, a.Bit, b.Root, b.Bit
					for level, digit := range pathTo(depth, index) {
						seedA, bitA = impl.EvaluateNode(seedA, bitA, int(digit-'0'), a.Corrections[level])
						seedB, bitB = impl.EvaluateNode(seedB, bitB, int(digit-'0'), b.Corrections[level])
						onPath := pathTo(depth, index)[:level+1] == pathTo(depth, point)[:level+1]
						if onPath && bitA+bitB != 1 || !onPath && (bitA != bitB || seedA != seedB) {
							t.Errorf("at level %d of leaf %d, %v has %d, %d and %v has %d, %d", level, index, a, seedA, bitA, b, seedB, bitB)
						}
					}
				}
			}
		}
	}
}

// Two servers that are given a key each answer with what is together the row of the point.
func TestPointKeysReadARow(t *testing.T) {
	for depth := 1; depth <= 6; depth++ {
		rows := cells(1<<depth, depth)
		for point, row := range rows {
			for _, roots := range rootPairs {
				a, b, _ := impl.MakePointKeys(depth, point, roots[0], roots[1])
				checkAnswered(t, rows, [][]int{impl.EvaluateAll(a), impl.EvaluateAll(b)}, row)
			}
		}
	}
}

// Keys of points that part at a level have the same corrections above it, and others there.
func TestMakePointKeysUpToTheFirstOtherBit(t *testing.T) {
	for depth := 1; depth <= 6; depth++ {
		for point := range 1 << depth {
			a, _, _ := impl.MakePointKeys(depth, point, 77, 88)
			for level := range depth {
				other, _, _ := impl.MakePointKeys(depth, point^1<<(depth-1-level), 77, 88)
				if !slices.Equal(other.Corrections[:level], a.Corrections[:level]) || other.Corrections[level] == a.Corrections[level] {
					t.Errorf("%v and %v are keys of points that part at level %d", a, other, level)
				}
			}
		}
	}
}

func TestMakePointKeysOfOtherDepths(t *testing.T) {
	for _, depth := range append([]int{0}, notDepths...) {
		for _, point := range append(notIndexes(0), 0, 1, 2, 3, 63, 64, 127, depth) {
			rejectKeys(t, depth, point, 77, 88)
		}
	}
}

func TestMakePointKeysOfOtherPoints(t *testing.T) {
	for depth := 1; depth <= 6; depth++ {
		for _, point := range notIndexes(depth) {
			for _, roots := range rootPairs {
				rejectKeys(t, depth, point, roots[0], roots[1])
			}
		}
	}
}

func TestMakePointKeysOfOtherRoots(t *testing.T) {
	for depth := 1; depth <= 6; depth++ {
		for _, point := range []int{0, 1, 1<<depth - 1} {
			for _, bad := range notRoots {
				for _, root := range someRoots {
					rejectKeys(t, depth, point, bad, root)
					rejectKeys(t, depth, point, root, bad)
				}
				rejectKeys(t, depth, point, bad, bad)
			}
			for _, rootA := range someRoots {
				for _, rootB := range someRoots {
					if _, _, ok := impl.MakePointKeys(depth, point, rootA, rootB); !ok {
						t.Errorf("MakePointKeys(%d, %d, %d, %d) makes no keys", depth, point, rootA, rootB)
					}
				}
			}
		}
	}
}

// Each of the arguments is out of range beside others that are, too.
func TestMakePointKeysOutOfRangeTogether(t *testing.T) {
	for _, depth := range []int{0, -1, 7, math.MaxInt, math.MinInt} {
		for _, point := range []int{-1, 128, math.MaxInt, math.MinInt} {
			for _, root := range notRoots {
				rejectKeys(t, depth, point, root, root)
				rejectKeys(t, depth, 0, root, 5)
				rejectKeys(t, 3, point, 5, root)
			}
		}
	}
}

func TestIsValidPointKey(t *testing.T) {
	for _, k := range goodKeys() {
		if !impl.IsValidPointKey(k) {
			t.Errorf("IsValidPointKey(%v) is false", k)
		}
	}
	for _, k := range badKeys() {
		if impl.IsValidPointKey(k) {
			t.Errorf("IsValidPointKey(%v) is true", k)
		}
	}
	for _, k := range longKeys() {
		if impl.IsValidPointKey(k) {
			t.Errorf("IsValidPointKey of a key with %d corrections is true", len(k.Corrections))
		}
	}
}

// Every number of corrections about the limits, with each bit and with roots at the limits.
func TestIsValidPointKeyByDepth(t *testing.T) {
	for count := range 70 {
		for _, root := range []int{0, 1, impl.Modulus - 1} {
			for bit := range 2 {
				k := keyOf(root, bit, someCorrections(count)...)
				if got := impl.IsValidPointKey(k); got != (count >= 1 && count <= 6) {
					t.Errorf("IsValidPointKey(%v) = %v", k, got)
				}
			}
		}
	}
}

// Nothing comes from an invalid key; the test stops at the first one from which something does.
func TestInvalidPointKeys(t *testing.T) {
	indexes := append(notIndexes(6), 31, 32, 62, 63)
	for index := range 16 {
		indexes = append(indexes, index)
	}
	for _, k := range append(badKeys(), longKeys()...) {
		short := keyOf(k.Root, k.Bit, k.Corrections[:min(len(k.Corrections), 9)]...)
		if got := impl.EvaluateAll(k); len(got) != 0 {
			t.Fatalf("EvaluateAll of a key with %d corrections has %d bits: %v", len(k.Corrections), len(got), short)
		}
		if got := impl.EncodePointKey(k); len(got) != 0 {
			t.Fatalf("EncodePointKey of a key with %d corrections has %d bytes: %v", len(k.Corrections), len(got), short)
		}
		for _, index := range indexes {
			if got := impl.EvaluatePoint(k, index); got != 0 {
				t.Fatalf("EvaluatePoint at %d of a key with %d corrections is %d: %v", index, len(k.Corrections), got, short)
			}
		}
	}
}

func TestEvaluateAll(t *testing.T) {
	cases := []struct {
		k    impl.PointKey
		want string
	}{
		{keyOf(5, 1, correction(300, 1, 0)), "11"},
		{keyOf(0, 0, impl.Correction{}), "00"},
		{keyOf(77, 1, correction(greatestSeed, 0, 1), correction(1, 1, 0)), "1100"},
		{keyOf(88, 0, correction(greatestSeed, 0, 1), correction(1, 1, 0)), "1110"},
		{keyOf(impl.Modulus-1, 1, slices.Repeat([]impl.Correction{correction(greatestSeed, 1, 1)}, 6)...),
			"0110010011110110001000010100000111000111011111001010101111001101"},
	}
	for _, c := range cases {
		checkSelection(t, c.k, bits(c.want))
	}
}

func TestEvaluateAllAgainstReference(t *testing.T) {
	for _, k := range goodKeys() {
		checkSelection(t, k, referenceKeySelection(k))
		if v := impl.EvaluateAll(k); !impl.IsSelection(v, 1<<len(k.Corrections)) {
			t.Errorf("EvaluateAll(%v) = %v is no selection", k, v)
		}
	}
}

// Of a key whose corrections are zeros, the bits are the control bits on the last side of each path.
func TestEvaluateWithoutCorrections(t *testing.T) {
	for depth := 1; depth <= 6; depth++ {
		for _, root := range someRoots {
			for bit := range 2 {
				k := keyOf(root, bit, make([]impl.Correction, depth)...)
				for index := range 1 << depth {
					want := impl.ControlBit(impl.LeafSeed(root, depth-1, index/2), index%2)
					if got := impl.EvaluatePoint(k, index); got != want {
						t.Errorf("EvaluatePoint(%v, %d) = %d, want %d", k, index, got, want)
					}
				}
			}
		}
	}
}

// The halves of a key's selection are those of its two children, the first of which is on the left.
func TestEvaluateHalves(t *testing.T) {
	for _, k := range goodKeys() {
		depth := len(k.Corrections)
		if depth == 1 {
			continue
		}
		for index := range 1 << depth {
			half := 1 << (depth - 1)
			seed, bit := impl.EvaluateNode(k.Root, k.Bit, index/half, k.Corrections[0])
			child := keyOf(seed, bit, k.Corrections[1:]...)
			if seed < impl.Modulus && impl.EvaluatePoint(k, index) != impl.EvaluatePoint(child, index%half) {
				t.Errorf("%v and its child %v differ at %d", k, child, index)
			}
		}
	}
}

func TestEvaluatePointOutOfRange(t *testing.T) {
	for _, k := range goodKeys() {
		for _, index := range notIndexes(len(k.Corrections)) {
			if got := impl.EvaluatePoint(k, index); got != 0 {
				t.Errorf("EvaluatePoint(%v, %d) = %d", k, index, got)
			}
		}
	}
	// a key that selects all its rows, so that a bit of any row would be 1
	all := keyOf(5, 1, correction(300, 1, 0))
	for _, index := range append(notIndexes(1), notIndexes(6)...) {
		if got := impl.EvaluatePoint(all, index); got != 0 {
			t.Errorf("EvaluatePoint(%v, %d) = %d", all, index, got)
		}
	}
}

func TestEncodePointKey(t *testing.T) {
	most := []byte{255, 255, 255, 255, 15, 1, 1}
	cases := []struct {
		k    impl.PointKey
		want []byte
	}{
		{keyOf(5, 1, correction(300, 1, 0)), []byte{5, 1, 1, 172, 2, 1, 0}},
		{keyOf(5, 0, correction(300, 0, 1)), []byte{5, 0, 1, 172, 2, 0, 1}},
		{keyOf(0, 0, impl.Correction{}), []byte{0, 0, 1, 0, 0, 0}},
		{keyOf(127, 0, correction(128, 1, 1), correction(127, 0, 0)), []byte{127, 0, 2, 128, 1, 1, 1, 127, 0, 0}},
		{keyOf(impl.Modulus-1, 1, slices.Repeat([]impl.Correction{correction(greatestSeed, 1, 1)}, 6)...),
			slices.Concat([]byte{254, 255, 255, 255, 7, 1, 6}, bytes.Repeat(most, 6))},
	}
	for _, c := range cases {
		if got := impl.EncodePointKey(c.k); !bytes.Equal(got, c.want) {
			t.Errorf("EncodePointKey(%v) = %v, want %v", c.k, got, c.want)
		}
	}
}

// integersOf lists the integers of a key in the order of their varints.
func integersOf(k impl.PointKey) []int {
	list := []int{k.Root, k.Bit, len(k.Corrections)}
	for _, c := range k.Corrections {
		list = append(list, c.Seed, c.Left, c.Right)
	}
	return list
}

func TestEncodePointKeyIsItsVarints(t *testing.T) {
	for _, k := range goodKeys() {
		var want []byte
		for _, n := range integersOf(k) {
			want = impl.AppendUvarint(want, n)
		}
		got := impl.EncodePointKey(k)
		if !bytes.Equal(got, want) {
			t.Errorf("EncodePointKey(%v) = %v, want %v", k, got, want)
		}
		decoded, end, ok := impl.DecodeInts(got, 0, 3+3*len(k.Corrections))
		if !ok || end != len(got) || !slices.Equal(decoded, integersOf(k)) {
			t.Errorf("the encoding of %v is decoded as %v, %d, %v", k, decoded, end, ok)
		}
	}
}

func TestKeySavings(t *testing.T) {
	for depth, want := range []int{0, -3, -4, -3, 2, 15, 44, 0} {
		if got := impl.KeySavings(depth); got != want {
			t.Errorf("KeySavings(%d) = %d, want %d", depth, got, want)
		}
	}
	for _, depth := range append([]int{0}, notDepths...) {
		if got := impl.KeySavings(depth); got != 0 {
			t.Errorf("KeySavings(%d) = %d", depth, got)
		}
	}
}

// The savings are the number of elements less that of a key's integers, without the number of corrections.
func TestKeySavingsOfKeys(t *testing.T) {
	for _, k := range goodKeys() {
		want := len(impl.EvaluateAll(k)) - len(integersOf(k)) + 1
		if got := impl.KeySavings(len(k.Corrections)); got != want {
			t.Errorf("KeySavings(%d) = %d, want %d", len(k.Corrections), got, want)
		}
	}
}

// checkEqualKeys reports an error if EqualPointKeys is not as wanted, in either order.
func checkEqualKeys(t *testing.T, a impl.PointKey, b impl.PointKey, want bool) {
	t.Helper()
	if impl.EqualPointKeys(a, b) != want || impl.EqualPointKeys(b, a) != want {
		t.Errorf("EqualPointKeys of %v and %v is not %v in both orders", a, b, want)
	}
}

func TestEqualPointKeys(t *testing.T) {
	empty := impl.PointKey{Root: 5, Bit: 1, Corrections: []impl.Correction{}}
	many, one := make([]impl.Correction, 257), make([]impl.Correction, 1)
	cases := []struct {
		a, b impl.PointKey
		want bool
	}{
		{impl.PointKey{}, impl.PointKey{}, true},
		{impl.PointKey{}, keyOf(0, 0, []impl.Correction{}...), true},
		{impl.PointKey{}, impl.PointKey{Corrections: []impl.Correction{}}, true},
		{impl.PointKey{Root: 5, Bit: 1}, empty, true},
		{impl.PointKey{}, keyOf(1, 0), false},
		{impl.PointKey{}, keyOf(0, 1), false},
		{impl.PointKey{}, keyOf(0, 0, impl.Correction{}), false},
		{keyOf(1, 0), keyOf(0, 1), false},
		{keyOf(5, 1, correction(1, 0, 1)), keyOf(5, 1, correction(1, 0, 1)), true},
		{keyOf(5, 1, correction(1, 0, 1)), keyOf(1, 5, correction(1, 0, 1)), false},
		{keyOf(5, 1, correction(1, 0, 1)), keyOf(5, 1, correction(1, 1, 0)), false},
		{keyOf(5, 1, correction(1, 0, 0)), keyOf(5, 1, correction(0, 1, 0)), false},
		// the same corrections in another order
		{keyOf(5, 1, correction(1, 0, 1), correction(2, 0, 1)), keyOf(5, 1, correction(2, 0, 1), correction(1, 0, 1)), false},
		{keyOf(0, 0, many...), keyOf(0, 0, many...), true},
		{keyOf(0, 0, many...), keyOf(0, 0, one...), false},
		{keyOf(0, 0, many...), keyOf(0, 0, many[:256]...), false},
		// integers that agree only in their low bits or modulo Modulus
		{keyOf(0, 0), keyOf(1<<32, 0), false},
		{keyOf(0, 0), keyOf(impl.Modulus, 0), false},
		{keyOf(5, 0), keyOf(5, 1<<32), false},
		{keyOf(-1, 0), keyOf(impl.Modulus-1, 0), false},
		{keyOf(math.MinInt, 0), keyOf(math.MaxInt, 0), false},
		{keyOf(5, 1, correction(0, 0, 0)), keyOf(5, 1, correction(1<<32, 0, 0)), false},
	}
	for _, c := range cases {
		checkEqualKeys(t, c.a, c.b, c.want)
	}
}

// A key equals a copy of it, valid or not, and no key that differs in a single part or in their number.
func TestEqualPointKeysByParts(t *testing.T) {
	for _, k := range slices.Concat(goodKeys(), badKeys()) {
		last := len(k.Corrections) - 1
		checkEqualKeys(t, k, k, true)
		checkEqualKeys(t, k, copyKey(k), true)
		checkEqualKeys(t, k, keyOf(k.Root+1, k.Bit, k.Corrections...), false)
		checkEqualKeys(t, k, keyOf(k.Root, k.Bit^1, k.Corrections...), false)
		checkEqualKeys(t, k, keyOf(k.Root, k.Bit, append(copyKey(k).Corrections, impl.Correction{})...), false)
		if last < 0 {
			continue
		}
		for _, place := range slices.Compact([]int{0, last / 2, last}) {
			c := k.Corrections[place]
			checkEqualKeys(t, k, corrected(k, place, correction(c.Seed^1, c.Left, c.Right)), false)
			checkEqualKeys(t, k, corrected(k, place, correction(c.Seed, c.Left^1, c.Right)), false)
			checkEqualKeys(t, k, corrected(k, place, correction(c.Seed, c.Left, c.Right^1)), false)
			// one key is the beginning of the other
			checkEqualKeys(t, k, keyOf(k.Root, k.Bit, k.Corrections[:place]...), false)
		}
	}
}

func TestEqualPointKeysOfPairs(t *testing.T) {
	keys := goodKeys()
	for i, a := range keys {
		for j, b := range keys {
			checkEqualKeys(t, a, b, i == j || sameKey(a, b))
		}
	}
	for point := range 64 {
		a, b, _ := impl.MakePointKeys(6, point, 5, 5)
		again, other, _ := impl.MakePointKeys(6, point, 5, 5)
		checkEqualKeys(t, a, again, true)
		checkEqualKeys(t, b, other, true)
		checkEqualKeys(t, a, b, false)
	}
}

// roomyKey returns a key with the parts of k and spare capacity behind its corrections, and a function
// that tells whether all of it is as it was.
func roomyKey(k impl.PointKey) (impl.PointKey, func() bool) {
	whole := append(slices.Clone(k.Corrections), slices.Repeat([]impl.Correction{correction(165, 1, 1)}, 20)...)
	before := slices.Clone(whole)
	return keyOf(k.Root, k.Bit, whole[:len(k.Corrections)]...), func() bool { return slices.Equal(whole, before) }
}

// spoilCorrections writes over the corrections of a key and their spare capacity.
func spoilCorrections(k impl.PointKey) {
	whole := k.Corrections[:cap(k.Corrections)]
	for i := range whole {
		whole[i] = correction(77, 77, 77)
	}
}

// The spare capacity of an argument neither takes part nor changes.
func TestPointKeysWithSpareCapacity(t *testing.T) {
	for _, k := range slices.Concat(goodKeys(), badKeys()) {
		spare, unchanged := roomyKey(k)
		if impl.IsValidPointKey(spare) != impl.IsValidPointKey(k) || !unchanged() {
			t.Errorf("IsValidPointKey(%v) goes by the spare capacity or changes it", k)
		}
		if !impl.EqualPointKeys(spare, k) || !impl.EqualPointKeys(k, spare) || !unchanged() {
			t.Errorf("EqualPointKeys(%v) goes by the spare capacity or changes it", k)
		}
		selection, encoded := impl.EvaluateAll(spare), impl.EncodePointKey(spare)
		if !slices.Equal(selection, impl.EvaluateAll(k)) || !bytes.Equal(encoded, impl.EncodePointKey(k)) {
			t.Errorf("%v with spare capacity has %v and %v", k, selection, encoded)
		}
		checkFresh(t, "EvaluateAll", selection, unchanged)
		checkFresh(t, "EncodePointKey", encoded, unchanged)
		for _, index := range []int{0, 1, 5, 63, 64, -1} {
			if impl.EvaluatePoint(spare, index) != impl.EvaluatePoint(k, index) || !unchanged() {
				t.Errorf("EvaluatePoint(%v, %d) goes by the spare capacity or changes it", k, index)
			}
		}
		if !sameKey(spare, k) {
			t.Errorf("%v became %v", k, spare)
		}
	}
}

// Two keys of a pair share no memory with each other, nor with those of a later pair.
func TestPointKeysAreFresh(t *testing.T) {
	for depth := 1; depth <= 6; depth++ {
		for _, point := range []int{0, 1, 1<<depth - 1} {
			for _, roots := range rootPairs {
				a, b, _ := impl.MakePointKeys(depth, point, roots[0], roots[1])
				before, want := copyKey(b), copyKey(a)
				spoilCorrections(a)
				if !sameKey(b, before) {
					t.Errorf("the second key became %v, want %v", b, before)
				}
				a, again, _ := impl.MakePointKeys(depth, point, roots[0], roots[1])
				spoilCorrections(b)
				if !sameKey(a, want) || !sameKey(again, before) {
					t.Errorf("the keys are %v and %v after earlier ones were written to, want %v and %v", a, again, want, before)
				}
				spoilCorrections(again)
				if !sameKey(a, want) {
					t.Errorf("the first key became %v, want %v", a, want)
				}
			}
		}
	}
}

func TestPointKeyResultsAreFresh(t *testing.T) {
	for _, k := range append(goodKeys(), badKeys()...) {
		before := copyKey(k)
		checkAgain(t, "EvaluateAll", func() []int { return impl.EvaluateAll(k) })
		checkAgain(t, "EncodePointKey", func() []byte { return impl.EncodePointKey(k) })
		if !sameKey(k, before) {
			t.Errorf("%v became %v", before, k)
		}
	}
}

// The same memory may be the corrections of two keys, or parts of it may be.
func TestPointKeysOfOneMemory(t *testing.T) {
	whole := someCorrections(8)
	before := slices.Clone(whole)
	for start := range whole {
		for end := start; end <= len(whole); end++ {
			k, own := keyOf(5, 1, whole[start:end]...), keyOf(5, 1, slices.Clone(whole[start:end])...)
			checkEqualKeys(t, k, own, true)
			// as many corrections from the beginning, which may overlap those of k
			first := keyOf(5, 1, whole[:end-start]...)
			checkEqualKeys(t, k, first, sameKey(k, first))
			if !slices.Equal(impl.EvaluateAll(k), impl.EvaluateAll(own)) || !bytes.Equal(impl.EncodePointKey(k), impl.EncodePointKey(own)) {
				t.Errorf("%v as a part of a slice is another key", k)
			}
		}
	}
	if !slices.Equal(whole, before) {
		t.Errorf("the corrections became %v, want %v", whole, before)
	}
}
