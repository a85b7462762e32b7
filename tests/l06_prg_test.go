package tests

import (
	"bytes"
	"math"
	"math/big"
	"slices"
	"strconv"
	"strings"
	"testing"

	"loop.example/g00516/impl"
)

// someSides lists sides of every kind: those of a tree, others about them, those of a stream, and
// integers at and beyond the range of a seed.
var someSides = append([]int{3, 47, 53, 99, 100, 101, 499, 500, -2, -100}, someKeys...)

// notDepths lists integers that are no depth of a tree. Those just beyond the limits come first: a test
// that makes trees stops there, before a missing limit costs gigabytes.
var notDepths = []int{-1, -2, -impl.MaxDepth, impl.MaxDepth + 1, impl.MaxDepth + 2, 32, 62, 63, 64, 65, 128, 1 << 32, 1<<32 + 3,
	impl.MaxValue, -impl.MaxValue, math.MaxInt, math.MaxInt - 1, math.MinInt, math.MinInt + 1, math.MinInt + 3}

// notIndexes lists integers that are no index of a leaf at this depth.
func notIndexes(depth int) []int {
	count := 1 << depth
	return []int{-1, -2, -count, -count - 1, count, count + 1, 2*count - 1, 2 * count, 3 * count, 1 << 32, 1<<32 + 1, 1 << 62,
		impl.MaxValue, -impl.MaxValue, math.MaxInt, math.MaxInt - 1, math.MinInt, math.MinInt + 1, math.MinInt + count}
}

// referenceSquare squares a keyed hash and adds to it as chapter 6 states it, with integers that do not wrap around.
func referenceSquare(seed int, mark int, side int, offset int64) *big.Int {
	h := big.NewInt(int64(referenceHash([]int{seed, mark, side, seed})))
	h.Mul(h, h)
	h.Add(h, big.NewInt(offset))
	return h.Mod(h, big.NewInt(2147483647))
}

// referenceChild is the seed of a child.
func referenceChild(seed int, side int) int {
	return int(referenceSquare(seed, 47, side, 5).Int64())
}

// pathTo returns the sides on the path to a leaf as a string of depth digits.
func pathTo(depth int, index int) string {
	if depth == 0 {
		return ""
	}
	digits := strconv.FormatInt(int64(index), 2)
	return strings.Repeat("0", depth-len(digits)) + digits
}

// referencePath is the seed at the end of a path, each of its digits being a side.
func referencePath(root int, path string) int {
	for _, digit := range path {
		root = referenceChild(root, int(digit-'0'))
	}
	return root
}

// referencePuncture lists the seeds beside the path to a leaf: each one's path agrees with it up to its last side.
func referencePuncture(root int, depth int, index int) []int {
	siblings := []int{}
	path := pathTo(depth, index)
	for i, digit := range path {
		siblings = append(siblings, referencePath(root, path[:i]+string('0'+'1'-digit)))
	}
	return siblings
}

func TestPrgLimits(t *testing.T) {
	if impl.MaxDepth != 6 || impl.MaxStream != 400 {
		t.Errorf("MaxDepth is %d, MaxStream is %d", impl.MaxDepth, impl.MaxStream)
	}
}

func TestChildSeed(t *testing.T) {
	cases := []struct{ seed, side, want int }{
		{9, 0, 1158699773},
		{9, 1, 58521909},
		{9, 2, 1810552353},
		{9, 100, 1536208592},
		{0, 0, 926899518},
		{0, 1, 991289250},
		{impl.Modulus - 1, 0, 1468006557},
		// sides that are negative or beyond the range of a seed
		{9, -1, 816118651},
		{9, impl.Modulus, 1158699773},
		{9, impl.Modulus + 1, 58521909},
		{9, math.MinInt, 1178262190},
		{9, math.MaxInt, 58521909},
		// seeds that are negative or beyond the range of a seed
		{impl.Modulus, 0, 926899518},
		{impl.Modulus + 9, 1, 58521909},
		{-1, 0, 1468006557},
		{-1, 1, 468746218},
		{9 - impl.Modulus, 0, 1158699773},
		{impl.MaxValue, 1, 1539071049},
		{math.MinInt, 0, 1740711250},
		{math.MaxInt, 1, 1245429936},
		{math.MinInt, math.MaxInt, 1825284487},
		{math.MaxInt, math.MinInt, 2122968157},
		// the square is so great that the 5 goes beyond Modulus, or just not
		{9, 894181093, 2},
		{9, 402897064, 0},
		{9, 309217020, impl.Modulus - 1},
		{0, 1182137941, 0},
		// the hash is 0, and Modulus-1
		{9, 806567050, 5},
		{9, 1430261002, 6},
	}
	for _, c := range cases {
		if got := impl.ChildSeed(c.seed, c.side); got != c.want {
			t.Errorf("ChildSeed(%d, %d) = %d, want %d", c.seed, c.side, got, c.want)
		}
	}
}

func TestChildSeedAgainstReference(t *testing.T) {
	for _, seed := range someKeys {
		for _, side := range someSides {
			got := impl.ChildSeed(seed, side)
			if got != referenceChild(seed, side) {
				t.Errorf("ChildSeed(%d, %d) = %d, want %d", seed, side, got, referenceChild(seed, side))
			}
			if got < 0 || got >= impl.Modulus {
				t.Errorf("ChildSeed(%d, %d) = %d is out of range", seed, side, got)
			}
			if h := impl.KeyedHash(seed, []int{47, side}); got != (h*h+5)%impl.Modulus {
				t.Errorf("ChildSeed(%d, %d) = %d does not follow from the keyed hash %d", seed, side, got, h)
			}
		}
	}
}

// Many seeds have many children, and seldom twice the same one.
func TestChildSeedDependsOnSeedAndSide(t *testing.T) {
	seen := map[int]bool{}
	for seed := range 300 {
		for side := -5; side < 5; side++ {
			seen[impl.ChildSeed(seed, side)] = true
		}
	}
	if len(seen) < 2990 {
		t.Errorf("3000 pairs of a seed and a side give only %d different children", len(seen))
	}
}

func TestControlBit(t *testing.T) {
	cases := []struct{ seed, side, want int }{
		{9, 0, 0},
		{9, 1, 1},
		{9, 2, 0},
		{9, -1, 1},
		{9, 100, 1},
		{9, impl.Modulus, 0},
		{9, impl.Modulus + 1, 1},
		{9, math.MinInt, 1},
		{9, math.MaxInt, 1},
		{0, 0, 0},
		{0, 1, 0},
		{impl.Modulus - 1, 0, 0},
		{impl.Modulus + 9, 1, 1},
		{-1, 0, 0},
		{-1, 1, 1},
		{9 - impl.Modulus, 0, 0},
		{impl.MaxValue, 1, 1},
		{math.MinInt, 0, 0},
		{math.MaxInt, 1, 0},
		{math.MinInt, math.MaxInt, 1},
		{math.MaxInt, math.MinInt, 0},
		// squares just below Modulus, where nothing may be added, and those of 0 and Modulus-1
		{9, 759180757, 1},
		{9, 888181075, 1},
		{9, 800567032, 0},
		{9, 1424260984, 0},
	}
	for _, c := range cases {
		if got := impl.ControlBit(c.seed, c.side); got != c.want {
			t.Errorf("ControlBit(%d, %d) = %d, want %d", c.seed, c.side, got, c.want)
		}
	}
	left := bits("0001001110110001001110110001110100001110")
	right := bits("0001110001110001110001101010001110010001")
	for seed := range left {
		if got := impl.ControlBit(seed, 0); got != left[seed] {
			t.Errorf("ControlBit(%d, 0) = %d", seed, got)
		}
		if got := impl.ControlBit(seed, 1); got != right[seed] {
			t.Errorf("ControlBit(%d, 1) = %d", seed, got)
		}
	}
}

func TestControlBitAgainstReference(t *testing.T) {
	for _, seed := range someKeys {
		for _, side := range someSides {
			got, want := impl.ControlBit(seed, side), int(referenceSquare(seed, 53, side, 0).Bit(7))
			if got != want {
				t.Errorf("ControlBit(%d, %d) = %d, want %d", seed, side, got, want)
			}
		}
	}
}

func TestLeafSeed(t *testing.T) {
	cases := []struct{ root, depth, index, want int }{
		// at depth 0 the root is the leaf, whatever it is
		{9, 0, 0, 9},
		{0, 0, 0, 0},
		{-1, 0, 0, -1},
		{impl.Modulus, 0, 0, impl.Modulus},
		{math.MinInt, 0, 0, math.MinInt},
		{math.MaxInt, 0, 0, math.MaxInt},
		{9, 1, 0, 1158699773},
		{9, 1, 1, 58521909},
		// the most significant bit is the first side
		{9, 2, 1, 1132790957},
		{9, 2, 2, 1278575183},
		{9, 3, 5, 1019963985},
		{9, 6, 0, 1907246672},
		{9, 6, 44, 1809466227},
		{9, 6, 63, 1995615307},
		{0, 3, 4, 66214791},
		{impl.Modulus - 1, 3, 1, 30393518},
		{impl.Modulus, 3, 4, 66214791},
		{-1, 3, 1, 30393518},
		{math.MinInt, 6, 21, 1424025862},
		{math.MaxInt, 6, 42, 115339759},
		// no such leaf, no such tree
		{9, 0, 1, 0},
		{9, 0, -1, 0},
		{9, 1, 2, 0},
		{9, 1, -1, 0},
		{9, 2, 4, 0},
		{9, 6, 64, 0},
		{9, 6, -1, 0},
		{9, 7, 0, 0},
		{9, 7, 127, 0},
		{9, -1, 0, 0},
		{9, -1, -1, 0},
	}
	for _, c := range cases {
		if got := impl.LeafSeed(c.root, c.depth, c.index); got != c.want {
			t.Errorf("LeafSeed(%d, %d, %d) = %d, want %d", c.root, c.depth, c.index, got, c.want)
		}
	}
}

// Each leaf is reached from the root by its path of children.
func TestLeafSeedByItsPath(t *testing.T) {
	for _, root := range someKeys {
		for depth := range 7 {
			for index := range 1 << depth {
				seed := root
				for _, digit := range pathTo(depth, index) {
					seed = impl.ChildSeed(seed, int(digit-'0'))
				}
				got := impl.LeafSeed(root, depth, index)
				if got != seed || got != referencePath(root, pathTo(depth, index)) {
					t.Errorf("LeafSeed(%d, %d, %d) = %d, want %d", root, depth, index, got, seed)
				}
			}
		}
	}
}

// The two halves of a tree are the trees of the root's children.
func TestLeafSeedOfHalves(t *testing.T) {
	for _, root := range someKeys {
		for depth := 1; depth <= 6; depth++ {
			half := 1 << (depth - 1)
			for index := range 2 * half {
				want := impl.LeafSeed(impl.ChildSeed(root, index/half), depth-1, index%half)
				if got := impl.LeafSeed(root, depth, index); got != want {
					t.Errorf("LeafSeed(%d, %d, %d) = %d, want %d", root, depth, index, got, want)
				}
			}
		}
	}
}

func TestLeafSeedOutOfRange(t *testing.T) {
	for _, root := range someKeys {
		for _, depth := range notDepths {
			for _, index := range append(notIndexes(0), 0, 1, 2, 63, 64, 127, depth) {
				if got := impl.LeafSeed(root, depth, index); got != 0 {
					t.Fatalf("LeafSeed(%d, %d, %d) = %d", root, depth, index, got)
				}
			}
		}
		for depth := range 7 {
			for _, index := range notIndexes(depth) {
				if got := impl.LeafSeed(root, depth, index); got != 0 {
					t.Errorf("LeafSeed(%d, %d, %d) = %d", root, depth, index, got)
				}
			}
		}
	}
}

func TestLeafSeeds(t *testing.T) {
	cases := []struct {
		root, depth int
		want        []int
	}{
		{9, 0, []int{9}},
		{-1, 0, []int{-1}},
		{9, 1, []int{1158699773, 58521909}},
		{-1, 2, []int{52439802, 1885163235, 263197047, 45380393}},
		{9, 3, []int{1878757485, 1656362749, 540327051, 1433139560, 1030107958, 1019963985, 404737477, 945068664}},
	}
	for _, c := range cases {
		if got := impl.LeafSeeds(c.root, c.depth); !slices.Equal(got, c.want) {
			t.Errorf("LeafSeeds(%d, %d) = %v, want %v", c.root, c.depth, got, c.want)
		}
	}
}

func TestLeafSeedsAreTheSingleOnes(t *testing.T) {
	for _, root := range someKeys {
		for depth := range 7 {
			var want []int
			for index := range 1 << depth {
				want = append(want, impl.LeafSeed(root, depth, index))
			}
			if got := impl.LeafSeeds(root, depth); !slices.Equal(got, want) {
				t.Errorf("LeafSeeds(%d, %d) = %v, want %v", root, depth, got, want)
			}
		}
		for _, depth := range notDepths {
			if got := impl.LeafSeeds(root, depth); len(got) != 0 {
				t.Fatalf("LeafSeeds(%d, %d) has %d seeds", root, depth, len(got))
			}
		}
	}
}

// The leaves of a tree are different seeds.
func TestLeafSeedsDiffer(t *testing.T) {
	for root := range 100 {
		different := map[int]bool{}
		for _, seed := range impl.LeafSeeds(root, 6) {
			different[seed] = true
		}
		if len(different) != 64 {
			t.Errorf("the tree of %d has only %d different leaves", root, len(different))
		}
	}
}

// referenceStream is the stream of a seed as chapter 6 states it.
func referenceStream(seed int, length int) []byte {
	stream := []byte{}
	for i := range length {
		stream = append(stream, byte(referenceChild(seed, 100+i)/256%256))
	}
	return stream
}

func TestStreamBytes(t *testing.T) {
	cases := []struct {
		seed int
		want []byte
	}{
		{9, nil},
		{9, []byte{174}},
		{9, []byte{174, 203, 39, 194, 155, 179, 9, 159}},
		{0, []byte{210, 211, 19, 146}},
		{-1, []byte{64, 62, 123, 247}},
		{impl.Modulus - 1, []byte{64, 62, 123, 247}},
		{impl.Modulus, []byte{210, 211, 19, 146}},
		{math.MinInt, []byte{48, 43, 100, 221}},
		{math.MaxInt, []byte{229, 233, 44, 174}},
	}
	for _, c := range cases {
		if got := impl.StreamBytes(c.seed, len(c.want)); !bytes.Equal(got, c.want) {
			t.Errorf("StreamBytes(%d, %d) = %v, want %v", c.seed, len(c.want), got, c.want)
		}
	}
	if got := impl.StreamBytes(9, 400); len(got) != 400 || !bytes.Equal(got[397:], []byte{156, 248, 147}) {
		t.Errorf("StreamBytes(9, 400) = %v", got)
	}
}

// Every shorter stream of a seed is the start of its longest one.
func TestStreamBytesAgainstReference(t *testing.T) {
	for _, seed := range someKeys {
		longest := referenceStream(seed, 400)
		for length := range 401 {
			if got := impl.StreamBytes(seed, length); !bytes.Equal(got, longest[:length]) {
				t.Fatalf("StreamBytes(%d, %d) = %v, want %v", seed, length, got, longest[:length])
			}
		}
	}
}

func TestStreamBytesOutOfRange(t *testing.T) {
	for _, seed := range someKeys {
		for _, length := range []int{-1, -2, -400, 401, 402, 500, 800, 1 << 16, -impl.MaxValue, math.MinInt, math.MinInt + 1,
			math.MinInt + 400, 1 << 32, 1<<32 + 3, impl.MaxValue, 1 << 62, math.MaxInt, math.MaxInt - 1} {
			if got := impl.StreamBytes(seed, length); len(got) != 0 {
				t.Fatalf("StreamBytes(%d, %d) has %d bytes", seed, length, len(got))
			}
		}
	}
}

func TestStreamBytesDependOnSeed(t *testing.T) {
	different := map[string]bool{}
	for seed := range 500 {
		different[string(impl.StreamBytes(seed, 16))] = true
	}
	if len(different) != 500 {
		t.Errorf("500 seeds give only %d different streams", len(different))
	}
}

func TestPunctureTree(t *testing.T) {
	cases := []struct {
		root, depth, index int
		want               []int
	}{
		{9, 3, 5, []int{1158699773, 1862947274, 1030107958}},
		{9, 1, 0, []int{58521909}},
		{9, 1, 1, []int{1158699773}},
		{-1, 2, 1, []int{468746218, 52439802}},
		{9, 6, 63, []int{1158699773, 1278575183, 404737477, 1961696594, 18125400, 1971331622}},
		{9, 0, 0, nil},
		{9, 0, 1, nil},
		{9, 0, -1, nil},
		{9, 1, 2, nil},
		{9, 3, 8, nil},
		{9, 3, -1, nil},
		{9, 6, 64, nil},
		{9, 7, 0, nil},
		{9, 7, 127, nil},
		{9, -1, 0, nil},
		{9, -1, -1, nil},
	}
	for _, c := range cases {
		if got := impl.PunctureTree(c.root, c.depth, c.index); !slices.Equal(got, c.want) {
			t.Errorf("PunctureTree(%d, %d, %d) = %v, want %v", c.root, c.depth, c.index, got, c.want)
		}
	}
}

func TestPunctureTreeAgainstReference(t *testing.T) {
	for _, root := range someKeys {
		for depth := range 7 {
			for index := range 1 << depth {
				want := referencePuncture(root, depth, index)
				if got := impl.PunctureTree(root, depth, index); !slices.Equal(got, want) {
					t.Errorf("PunctureTree(%d, %d, %d) = %v, want %v", root, depth, index, got, want)
				}
			}
			for _, index := range notIndexes(depth) {
				if got := impl.PunctureTree(root, depth, index); len(got) != 0 {
					t.Errorf("PunctureTree(%d, %d, %d) = %v", root, depth, index, got)
				}
			}
		}
		for _, depth := range notDepths {
			for _, index := range append(notIndexes(0), 0, 1, 2, 63, 64, 127, depth) {
				if got := impl.PunctureTree(root, depth, index); len(got) != 0 {
					t.Fatalf("PunctureTree(%d, %d, %d) has %d seeds", root, depth, index, len(got))
				}
			}
		}
	}
}

// checkPunctured reports an error if the leaf other does not come from the siblings as it should.
func checkPunctured(t *testing.T, siblings []int, index int, other int, want int, wantOk bool) {
	t.Helper()
	if got, ok := impl.PuncturedLeaf(siblings, index, other); got != want || ok != wantOk {
		t.Errorf("PuncturedLeaf(%v, %d, %d) = %d, %v, want %d, %v", siblings, index, other, got, ok, want, wantOk)
	}
}

func TestPuncturedLeaf(t *testing.T) {
	// the punctured tree of 9 with 8 leaves, of which the one with index 5 is missing
	siblings := []int{1158699773, 1862947274, 1030107958}
	for other, want := range []int{1878757485, 1656362749, 540327051, 1433139560, 1030107958, 0, 404737477, 945068664} {
		checkPunctured(t, siblings, 5, other, want, other != 5)
	}
	cases := []struct {
		siblings     []int
		index, other int
		want         int
		ok           bool
	}{
		{[]int{58521909}, 0, 1, 58521909, true},
		{[]int{1158699773}, 1, 0, 1158699773, true},
		{[]int{58521909}, 0, 0, 0, false},
		{[]int{58521909}, 1, 1, 0, false},
		// a tree of depth 0 has one leaf, and that is the missing one
		{nil, 0, 0, 0, false},
		{[]int{}, 0, 0, 0, false},
		{nil, 0, 1, 0, false},
		{nil, 1, 0, 0, false},
		{[]int{}, 0, -1, 0, false},
		{nil, -1, 0, 0, false},
		{nil, 1, 2, 0, false},
		// no such leaf
		{siblings, 5, 8, 0, false},
		{siblings, 8, 5, 0, false},
		{siblings, 5, -1, 0, false},
		{siblings, -1, 5, 0, false},
		{siblings, 8, 9, 0, false},
		{siblings, -1, -2, 0, false},
		{siblings, 8, 8, 0, false},
		{siblings, math.MinInt, math.MaxInt, 0, false},
		// indexes that agree with a leaf in their lowest bits
		{siblings, 5, 8 + 4, 0, false},
		{siblings, 5 - 8, 4, 0, false},
		// siblings count as they are, also where they are no seeds
		{[]int{-1}, 0, 1, -1, true},
		{[]int{math.MinInt, math.MaxInt}, 3, 2, math.MaxInt, true},
		{[]int{-1, 7}, 2, 1, 468746218, true},
		{[]int{impl.Modulus, 7}, 3, 0, 926899518, true},
		// a sibling whose seed is 0, with the same leaves as any other
		{[]int{0, 0}, 0, 1, 0, true},
		{[]int{0, 7}, 0, 2, 926899518, true},
		{[]int{0, 7}, 0, 3, 991289250, true},
	}
	for _, c := range cases {
		checkPunctured(t, c.siblings, c.index, c.other, c.want, c.ok)
	}
}

// A punctured tree yields all leaves but the missing one: the next one, the farthest, and every other.
func TestPuncturedLeafYieldsAllButOne(t *testing.T) {
	for _, root := range someKeys {
		for depth := range 7 {
			leaves := impl.LeafSeeds(root, depth)
			for index := range leaves {
				siblings := impl.PunctureTree(root, depth, index)
				for other, want := range leaves {
					if other == index {
						want = 0
					}
					checkPunctured(t, siblings, index, other, want, other != index)
				}
			}
		}
	}
}

// No seed of a punctured tree, and no leaf that comes from it, is the missing leaf.
func TestPunctureTreeHidesItsLeaf(t *testing.T) {
	for _, root := range someKeys {
		for depth := 1; depth <= 6; depth++ {
			for index := range 1 << depth {
				missing := impl.LeafSeed(root, depth, index)
				siblings := impl.PunctureTree(root, depth, index)
				if slices.Contains(siblings, missing) || slices.Contains(siblings, root) {
					t.Errorf("PunctureTree(%d, %d, %d) = %v tells the missing leaf or the root", root, depth, index, siblings)
				}
				for other := range 1 << depth {
					if got, ok := impl.PuncturedLeaf(siblings, index, other); ok && got == missing {
						t.Errorf("PuncturedLeaf(%v, %d, %d) is the missing leaf", siblings, index, other)
					}
				}
			}
		}
	}
}

func TestPuncturedLeafRejects(t *testing.T) {
	for depth := range 7 {
		for index := range 1 << depth {
			siblings := impl.PunctureTree(9, depth, index)
			for _, bad := range notIndexes(depth) {
				checkPunctured(t, siblings, index, bad, 0, false)
				checkPunctured(t, siblings, bad, index, 0, false)
				checkPunctured(t, siblings, bad, bad, 0, false)
				checkPunctured(t, siblings, bad, bad^1, 0, false)
			}
		}
	}
	for _, count := range []int{7, 8, 31, 32, 62, 63, 64, 65, 128, 1000} {
		siblings := make([]int, count)
		for i := range siblings {
			siblings[i] = 9 + i
		}
		for _, index := range []int{0, 1, 2, 63, 64, 127, 128, -1, 1 << 32, 1 << 62, math.MaxInt, math.MinInt} {
			for _, other := range []int{0, 1, 3, 63, 64, 126, 127, -1, 1 << 31, 1 << 61, math.MaxInt, math.MinInt} {
				checkPunctured(t, siblings, index, other, 0, false)
			}
		}
	}
}

// Each sibling yields its own leaves and no others, whatever the other siblings are.
func TestPuncturedLeafUsesOneSibling(t *testing.T) {
	for depth := 1; depth <= 6; depth++ {
		for index := range 1 << depth {
			path := pathTo(depth, index)
			for level := range depth {
				siblings := slices.Repeat([]int{-1}, depth)
				siblings[level] = 1000 + level
				for other := range 1 << depth {
					otherPath := pathTo(depth, other)
					if otherPath[:level] != path[:level] || otherPath[level] == path[level] {
						continue
					}
					checkPunctured(t, siblings, index, other, referencePath(1000+level, otherPath[level+1:]), true)
				}
			}
		}
	}
}

func TestPuncturedLeafLeavesSiblings(t *testing.T) {
	for depth := range 8 {
		var content []int
		for i := range depth {
			content = append(content, 77*i)
		}
		siblings, unchanged := roomy(content)
		for index := range 8 {
			for other := range 8 {
				want, wantOk := impl.PuncturedLeaf(content, index, other)
				// the integers behind the siblings make the tree no deeper
				checkPunctured(t, siblings, index, other, want, wantOk)
			}
		}
		if !unchanged() {
			t.Errorf("PuncturedLeaf changes its %d siblings or the spare capacity behind them", depth)
		}
	}
}

// A tree or a stream that is written to is not what a later call returns.
func TestTreesAreFresh(t *testing.T) {
	for depth := range 8 {
		checkAgain(t, "LeafSeeds", func() []int { return impl.LeafSeeds(9, depth) })
		checkAgain(t, "PunctureTree", func() []int { return impl.PunctureTree(9, depth, 0) })
	}
	for _, length := range []int{0, 1, 3, 400, 401} {
		checkAgain(t, "StreamBytes", func() []byte { return impl.StreamBytes(9, length) })
	}
}
