package tests

import (
	"fmt"
	"math"
	"math/big"
	"slices"
	"testing"

	"loop.example/g00516/impl"
)

// someLengths lists numbers of components for which every place is tried.
var someLengths = []int{1, 2, 3, 6, 63, 64}

// someElements lists field elements other than 0.
var someElements = []int{1, 2, 77, 509, 510, 1017, 1018}

// notElements lists integers that are no field elements, some of them with the remainder 0 or 1.
var notElements = []int{-1, -2, -1018, -1019, -1020, 1019, 1020, 2037, 2038, 2039, 1 << 32, 1<<32 + 1, 1 << 62, impl.MaxValue,
	-impl.MaxValue, math.MaxInt, math.MaxInt - 681, math.MinInt, math.MinInt + 682}

// someSketchSeeds lists seeds of challenges: small ones, those about the limits of a seed, and the ends of int.
var someSketchSeeds = append([]int{3, 4, 5, 6, 100, 200}, someKeys...)

// nonzero returns the vector of this many components that is 0 but for the elements at the given places.
func nonzero(length int, elements map[int]int) []int {
	v := make([]int, length)
	for place, element := range elements {
		v[place] = element
	}
	return v
}

// elements returns a vector of this many field elements, hardly any of which are 0.
func elements(length int, start int) []int {
	v := make([]int, length)
	for i := range v {
		v[i] = (start + 131*i + 17*i*i) % 1019
	}
	return v
}

// someVectors lists vectors that can be sketched, with no, one and more components that are not 0.
func someVectors() [][]int {
	list := [][]int{nil, {}, {0}, {1}, {1018}, {0, 0}, {0, 7}, {7, 0}, {7, 7}, {1, 1018}, {0, 0, 0}, {1, 2, 3}}
	for _, length := range []int{5, 63, 64} {
		list = append(list, make([]int, length), slices.Repeat([]int{1}, length), slices.Repeat([]int{1018}, length),
			elements(length, 5), nonzero(length, map[int]int{length / 2: 5}), nonzero(length, map[int]int{0: 5, length - 1: 1014}))
	}
	return list
}

// longVectors lists vectors of more than MaxRows components.
func longVectors() [][]int {
	var list [][]int
	for _, length := range []int{65, 66, 100, 128, 256, 257, 320, 1000, 1 << 16, 1<<16 + 3} {
		list = append(list, make([]int, length), nonzero(length, map[int]int{0: 1}), elements(length, 1))
	}
	return list
}

// spoiledVectors lists vectors of this many components with one, at any place, that is no field element.
func spoiledVectors(length int) [][]int {
	var list [][]int
	for place := range length {
		for _, element := range notElements {
			list = append(list, nonzero(length, map[int]int{place: element}))
		}
		full := elements(length, place)
		full[place] += 1019
		other := elements(length, place)
		other[place] -= 1019
		list = append(list, full, other)
	}
	return list
}

// unsketched lists vectors whose sketches are zeros since they cannot be sketched.
func unsketched() [][]int {
	list := longVectors()
	for _, length := range []int{1, 2, 3, 64} {
		list = append(list, spoiledVectors(length)...)
	}
	return append(list, notElements, []int{math.MinInt, math.MaxInt}, slices.Repeat([]int{1019}, 65), slices.Repeat([]int{-1}, 64))
}

// referenceChallenge is a random number as chapter 12 states it. The index of the child is that of Go's int.
func referenceChallenge(seed int, index int) int {
	return 1 + referenceChild(seed, 7000+index)%1018
}

// referenceSketch holds A, B and M of a vector with the challenges of a seed, computed with integers that
// do not wrap around. The components must be field elements.
func referenceSketch(v []int, seed int) [3]int {
	a, b, m := new(big.Int), new(big.Int), new(big.Int)
	for i, component := range v {
		r, part := big.NewInt(int64(referenceChallenge(seed, i))), big.NewInt(int64(component))
		m.Add(m, part)
		part = new(big.Int).Mul(part, r)
		a.Add(a, part)
		b.Add(b, new(big.Int).Mul(part, r))
	}
	return [3]int{referenceField(a), referenceField(b), referenceField(m)}
}

// referenceAccepts tells whether a*a - b*m is a multiple of FieldSize, with integers that do not wrap around.
func referenceAccepts(a int, b int, m int) bool {
	x, y, z := big.NewInt(int64(a)), big.NewInt(int64(b)), big.NewInt(int64(m))
	return referenceField(x.Sub(x.Mul(x, x), y.Mul(y, z))) == 0
}

// referenceVectors are the shares of a vector as chapter 12 states them.
func referenceVectors(v []int, seeds []int) [][]int {
	vectors := make([][]int, len(seeds)+1)
	for i, component := range v {
		own := slices.Clone(seeds)
		for k := range own {
			own[k] += 77 * i
		}
		for server, share := range referenceNumbers(component, own) {
			vectors[server] = append(vectors[server], share)
		}
	}
	return vectors
}

// fieldSum returns, for every component, the sum of the vectors modulo FieldSize.
func fieldSum(vectors [][]int) []int {
	var sum []int
	for i := range vectors[0] {
		total := 0
		for _, v := range vectors {
			total += v[i]
		}
		sum = append(sum, total%1019)
	}
	return sum
}

// remainders returns the components modulo FieldSize.
func remainders(v []int) []int {
	var list []int
	for _, component := range v {
		list = append(list, referenceField(big.NewInt(int64(component))))
	}
	return list
}

// sketchOf returns the three values of SketchShare.
func sketchOf(share []int, seed int) [3]int {
	a, b, m := impl.SketchShare(share, seed)
	return [3]int{a, b, m}
}

// joinedSketch returns the three values of JoinSketches.
func joinedSketch(shares [][]int, seed int) [3]int {
	a, b, m := impl.JoinSketches(shares, seed)
	return [3]int{a, b, m}
}

// brief returns the beginning of what value is printed as, since lists may be very long.
func brief(value any) string {
	text := fmt.Sprint(value)
	return text[:min(len(text), 300)]
}

// checkSketch reports an error if SketchShare does not return the wanted values.
func checkSketch(t *testing.T, share []int, seed int, want [3]int) {
	t.Helper()
	if got := sketchOf(share, seed); got != want {
		t.Errorf("SketchShare of %d components, %s, with the seed %d = %v, want %v", len(share), brief(share), seed, got, want)
	}
}

// checkJoinedSketch reports an error if JoinSketches does not return the wanted values.
func checkJoinedSketch(t *testing.T, shares [][]int, seed int, want [3]int) {
	t.Helper()
	if got := joinedSketch(shares, seed); got != want {
		t.Errorf("JoinSketches of %d shares, %s, with the seed %d = %v, want %v", len(shares), brief(shares), seed, got, want)
	}
}

// checkChecked reports an error if CheckShares does not return what is wanted.
func checkChecked(t *testing.T, shares [][]int, seed int, want bool) {
	t.Helper()
	if got := impl.CheckShares(shares, seed); got != want {
		t.Errorf("CheckShares of %d shares, %s, with the seed %d = %v, want %v", len(shares), brief(shares), seed, got, want)
	}
}

// checkRare reports an error if a vector with more than one component that is not 0 is accepted with more
// than 5 of 200 seeds. One is accepted about every fifth time.
func checkRare(t *testing.T, v []int, first int) int {
	t.Helper()
	got := impl.CountAccepting(v, first, 200)
	if got > 5 {
		t.Errorf("%v is accepted with %d of the 200 seeds from %d on", v, got, first)
	}
	return got
}

func TestChallenge(t *testing.T) {
	cases := []struct{ seed, index, want int }{
		{5, 0, 823}, {5, 1, 4}, {5, 2, 112}, {5, 3, 129}, {5, 4, 642}, {5, 63, 480}, {5, 64, 578},
		{0, 0, 668}, {1, 0, 115}, {impl.Modulus - 1, 0, 96},
		// the least and the greatest number
		{13, 31, 1}, {23, 6, 1}, {28, 5, 1}, {4, 23, 1018}, {13, 9, 1018}, {13, 56, 1018},
		// seeds that are negative or beyond the range of a seed
		{-1, 0, 96}, {impl.Modulus, 0, 668}, {impl.Modulus + 5, 2, 112}, {5 - impl.Modulus, 2, 112},
		{impl.MaxValue, 3, 531}, {-impl.MaxValue, 3, 282}, {math.MinInt, 0, 4}, {math.MaxInt, 0, 115},
		// indices that are negative, also so that the side is 0 or negative, or beyond the range of a seed
		{5, -1, 102}, {5, -6900, 134}, {5, -6999, 894}, {5, -7000, 21}, {5, -7001, 75}, {5, impl.Modulus, 823},
		{5, impl.Modulus + 2, 112}, {5, 2 - impl.Modulus, 112}, {5, impl.MaxValue, 327}, {5, -impl.MaxValue, 176},
		{5, math.MinInt, 308}, {5, math.MinInt + 6999, 554}, {math.MinInt, math.MinInt, 551}, {math.MaxInt, math.MinInt, 106},
		// the side is the greatest integer, or goes beyond it and comes back at the other end
		{5, math.MaxInt - 7000, 894}, {5, math.MaxInt - 6999, 38}, {5, math.MaxInt, 423}, {math.MinInt, math.MaxInt, 257},
		{math.MaxInt, math.MaxInt, 983},
	}
	for _, c := range cases {
		if got := impl.Challenge(c.seed, c.index); got != c.want {
			t.Errorf("Challenge(%d, %d) = %d, want %d", c.seed, c.index, got, c.want)
		}
	}
}

func TestChallengeAgainstReference(t *testing.T) {
	indexes := slices.Concat(someSides, []int{62, 63, 64, 65, -6999, -7000, -7001, 7000, math.MaxInt - 7000, math.MaxInt - 6999})
	for _, seed := range someSketchSeeds {
		for _, index := range indexes {
			if got, want := impl.Challenge(seed, index), referenceChallenge(seed, index); got != want {
				t.Errorf("Challenge(%d, %d) = %d, want %d", seed, index, got, want)
			}
		}
	}
}

// A challenge is every number from 1 to FieldSize-1 and never 0, with which a component would not count.
func TestChallengeRange(t *testing.T) {
	seen := map[int]bool{}
	for seed := range 400 {
		for index := range impl.MaxRows {
			r := impl.Challenge(seed, index)
			if r < 1 || r > 1018 {
				t.Fatalf("Challenge(%d, %d) = %d", seed, index, r)
			}
			seen[r] = true
		}
	}
	if len(seen) != 1018 {
		t.Errorf("the challenges are only %d different numbers", len(seen))
	}
}

func TestShareVector(t *testing.T) {
	cases := []struct {
		v, seeds []int
		want     [][]int
	}{
		{[]int{0, 0, 7, 0}, []int{100, 200}, [][]int{{100, 177, 254, 331}, {200, 277, 354, 431}, {719, 565, 418, 257}}},
		{[]int{5}, []int{0}, [][]int{{0}, {5}}},
		{[]int{5, 5, 5}, []int{0}, [][]int{{0, 77, 154}, {5, 947, 870}}},
		{[]int{0}, []int{1, 2, 3}, [][]int{{1}, {2}, {3}, {1013}}},
		{[]int{0, 0, 0}, []int{5}, [][]int{{5, 82, 159}, {1014, 937, 860}}},
		{[]int{1018, 0, 1}, []int{1018, 1}, [][]int{{1018, 76, 153}, {1, 78, 155}, {1018, 865, 712}}},
		// components beyond the field count modulo FieldSize
		{[]int{-1, 1019, 1020}, []int{-1}, [][]int{{1018, 76, 153}, {0, 943, 867}}},
		{[]int{math.MinInt, math.MaxInt}, []int{5}, [][]int{{5, 82}, {332, 599}}},
		// negative seeds, and equal ones
		{[]int{1, 2}, []int{-77, -78, -79}, [][]int{{942, 0}, {941, 1018}, {940, 1017}, {235, 5}}},
		{[]int{7, 0}, []int{-impl.MaxValue, impl.MaxValue}, [][]int{{111, 188}, {908, 985}, {7, 865}}},
		{[]int{0, 1}, []int{9, 9}, [][]int{{9, 86}, {9, 86}, {1001, 848}}},
		{[]int{3, 4}, []int{9, 9, 9}, [][]int{{9, 86}, {9, 86}, {9, 86}, {995, 765}}},
		// the seeds of later components reach the end of int, or go beyond it and come back at the other end
		{[]int{1, 2, 3}, []int{math.MaxInt}, [][]int{{681, 413, 490}, {339, 608, 532}}},
		{[]int{1, 2, 3}, []int{math.MaxInt - 77}, [][]int{{604, 681, 413}, {416, 340, 609}}},
		{[]int{1, 2, 3}, []int{math.MaxInt - 76, math.MaxInt - 154}, [][]int{{605, 337, 414}, {527, 604, 681}, {907, 80, 946}}},
		{[]int{1, 2, 3}, []int{math.MinInt, math.MaxInt}, [][]int{{337, 414, 491}, {681, 413, 490}, {2, 194, 41}}},
		{[]int{math.MaxInt, math.MinInt, math.MaxInt}, []int{math.MaxInt, math.MinInt, math.MaxInt},
			[][]int{{681, 413, 490}, {337, 414, 491}, {681, 413, 490}, {1, 116, 229}}},
		// a vector without components has as many shares as any other, and they have none either
		{nil, []int{5}, [][]int{{}, {}}},
		{[]int{}, []int{5, 6}, [][]int{{}, {}, {}}},
		{nil, []int{5, 6, 7}, [][]int{{}, {}, {}, {}}},
		// too few shares, and too many
		{[]int{0, 7}, nil, nil},
		{[]int{0, 7}, []int{}, nil},
		{[]int{0, 7}, []int{1, 2, 3, 4}, nil},
		{nil, nil, nil},
		{[]int{}, []int{1, 2, 3, 4}, nil},
	}
	for _, c := range cases {
		if got := impl.ShareVector(c.v, c.seeds); !sameList(got, c.want) {
			t.Errorf("ShareVector(%v, %v) = %v, want %v", c.v, c.seeds, got, c.want)
		}
	}
}

// checkVectors stops the test if the shares of a vector are not those of the reference, do not add up to
// the vector, or are no field elements.
func checkVectors(t *testing.T, v []int, seeds []int) {
	t.Helper()
	got := impl.ShareVector(v, seeds)
	if want := referenceVectors(v, seeds); !sameList(got, want) {
		t.Fatalf("ShareVector(%v, %v) = %v, want %v", v, seeds, got, want)
	}
	if !slices.Equal(fieldSum(got), remainders(v)) {
		t.Errorf("the shares of %v for the seeds %v add up to %v", v, seeds, fieldSum(got))
	}
	for i, share := range got {
		if len(share) > 0 && (slices.Min(share) < 0 || slices.Max(share) > 1018) {
			t.Errorf("share %d of %v for the seeds %v goes beyond the field: %v", i, v, seeds, share)
		}
	}
}

// All shares of a vector add up to it modulo FieldSize, and so component i of the shares joins to it.
func TestShareVectorAgainstReference(t *testing.T) {
	vectors := append(someVectors(), spoiledVectors(3)...)
	for _, element := range notElements {
		for _, place := range []int{0, 20, 63} {
			vectors = append(vectors, nonzero(64, map[int]int{place: element}))
		}
	}
	for _, seeds := range someSeedLists {
		for _, v := range vectors {
			checkVectors(t, v, seeds)
		}
	}
	for _, seed := range someNumbers {
		for _, seeds := range [][]int{{seed}, {seed, 5}, {-5, seed}, {seed, seed, seed}, {1, seed, seed - 77}} {
			checkVectors(t, elements(64, 9), seeds)
			checkVectors(t, make([]int, 64), seeds)
		}
	}
	for length := range impl.MaxRows + 1 {
		checkVectors(t, elements(length, length), []int{math.MaxInt - 77*length/2, length})
	}
}

func TestComponentsAreShareNumbers(t *testing.T) {
	v, seeds := elements(64, 3), []int{math.MaxInt - 3000, -900, 5}
	shares := impl.ShareVector(v, seeds)
	for i, component := range v {
		var column []int
		for _, share := range shares {
			column = append(column, share[i])
		}
		if want := impl.ShareNumber(component, []int{seeds[0] + 77*i, seeds[1] + 77*i, seeds[2] + 77*i}); !slices.Equal(column, want) {
			t.Errorf("component %d of the shares is %v, want %v", i, column, want)
		}
		if got := impl.JoinNumber(column); got != component {
			t.Errorf("component %d of the shares, %v, joins to %d, want %d", i, column, got, component)
		}
	}
}

// A vector is divided among 2 to 4 servers if it has at most 64 components, and otherwise not at all.
func TestShareVectorCount(t *testing.T) {
	for count := range 10 {
		for length := range 70 {
			want := 0
			if count >= 1 && count <= 3 && length <= 64 {
				want = count + 1
			}
			got := impl.ShareVector(make([]int, length), make([]int, count))
			if len(got) != want {
				t.Errorf("ShareVector of %d components with %d seeds has %d shares, want %d", length, count, len(got), want)
			}
			for i, share := range got {
				if len(share) != length {
					t.Errorf("share %d of %d components with %d seeds has %d of them", i, length, count, len(share))
				}
			}
		}
	}
	for _, v := range append(someVectors(), longVectors()...) {
		for _, seeds := range badSeedLists() {
			if got := impl.ShareVector(v, seeds); len(got) != 0 {
				t.Fatalf("ShareVector of %d components with %d seeds has %d shares", len(v), len(seeds), len(got))
			}
		}
	}
	for _, v := range longVectors() {
		for _, seeds := range someSeedLists {
			if got := impl.ShareVector(v, seeds); len(got) != 0 {
				t.Fatalf("ShareVector of %d components with the seeds %v has %d shares", len(v), seeds, len(got))
			}
		}
	}
}

// What a seed gives tells nothing of the vector but its length, and the last share is any field element.
func TestVectorsFromSeedsIgnoreTheVector(t *testing.T) {
	for _, v := range someVectors() {
		for _, seeds := range someSeedLists {
			shares, others := impl.ShareVector(v, seeds), impl.ShareVector(make([]int, len(v)), seeds)
			if last := len(seeds); !sameList(shares[:last], others[:last]) {
				t.Errorf("the shares of %v for the seeds %v depend on the vector", v, seeds)
			}
		}
	}
	for _, v := range [][]int{{0, 0, 0}, {0, 7, 0}, {1, 2, 1018}} {
		for i := range v {
			seen := map[int]bool{}
			for seed := range 1019 {
				seen[impl.ShareVector(v, []int{900, seed})[2][i]] = true
			}
			if len(seen) != 1019 {
				t.Errorf("component %d of the last share of %v takes only %d values", i, v, len(seen))
			}
		}
	}
}

func TestSketchShare(t *testing.T) {
	cases := []struct {
		share []int
		seed  int
		want  [3]int
	}{
		{nil, 5, [3]int{}},
		{[]int{}, 5, [3]int{}},
		{[]int{0}, 5, [3]int{}},
		{[]int{0, 0, 0}, 5, [3]int{}},
		{make([]int, 64), math.MinInt, [3]int{}},
		{[]int{1}, 5, [3]int{823, 713, 1}},
		{[]int{1018}, 5, [3]int{196, 306, 1018}},
		{[]int{0, 0, 7, 0}, 5, [3]int{784, 174, 7}},
		{[]int{0, 0, 7, 0}, 6, [3]int{90, 866, 7}},
		{[]int{1, 1, 0}, 5, [3]int{827, 729, 2}},
		{[]int{1, 2, 3, 4}, 5, [3]int{664, 1003, 10}},
		{[]int{1018, 1018, 1018, 1018}, 0, [3]int{336, 979, 1015}},
		{slices.Repeat([]int{1018}, 64), 9, [3]int{629, 738, 955}},
		{nonzero(64, map[int]int{63: 1}), 9, [3]int{572, 85, 1}},
		// seeds that are negative or beyond the range of a seed
		{[]int{1, 2, 3}, -1, [3]int{1012, 68, 6}},
		{[]int{1, 2, 3}, math.MinInt, [3]int{542, 418, 6}},
		{[]int{1, 2, 3}, math.MaxInt, [3]int{1000, 951, 6}},
		{[]int{1, 1}, impl.Modulus, [3]int{288, 623, 2}},
		// a component beyond each limit, and too many components
		{[]int{1019}, 5, [3]int{}},
		{[]int{-1}, 5, [3]int{}},
		{[]int{1, 1019, 2}, 5, [3]int{}},
		{[]int{1, 2, -1}, 5, [3]int{}},
		{[]int{1020, 1, 1}, 5, [3]int{}},
		{[]int{math.MaxInt, 1}, 5, [3]int{}},
		{[]int{1, math.MinInt}, 5, [3]int{}},
		{slices.Repeat([]int{1}, 65), 5, [3]int{}},
	}
	for _, c := range cases {
		checkSketch(t, c.share, c.seed, c.want)
	}
}

func TestSketchShareAgainstReference(t *testing.T) {
	for _, v := range someVectors() {
		for _, seed := range someSketchSeeds {
			checkSketch(t, v, seed, referenceSketch(v, seed))
		}
	}
	for length := range impl.MaxRows + 1 {
		checkSketch(t, elements(length, length), length, referenceSketch(elements(length, length), length))
		full := slices.Repeat([]int{1018}, length)
		checkSketch(t, full, -length, referenceSketch(full, -length))
	}
}

// The sketch of one component is that component times 1, its challenge and the square of that.
func TestSketchOfEveryComponent(t *testing.T) {
	for place := range impl.MaxRows {
		for element := range 1019 {
			seed := element*64 + place
			r := impl.Challenge(seed, place)
			checkSketch(t, nonzero(place+1, map[int]int{place: element}), seed, [3]int{r * element % 1019, r * r % 1019 * element % 1019, element})
		}
	}
}

func TestSketchShareRejects(t *testing.T) {
	for i, v := range unsketched() {
		checkSketch(t, v, someSketchSeeds[i%len(someSketchSeeds)], [3]int{})
		checkSketch(t, v, 5, [3]int{})
	}
}

func TestJoinSketches(t *testing.T) {
	one, two := []int{0, 0, 7, 0}, []int{1, 2, 3, 4}
	cases := []struct {
		shares [][]int
		want   [3]int
	}{
		{nil, [3]int{}},
		{[][]int{}, [3]int{}},
		{[][]int{nil}, [3]int{}},
		{[][]int{{}, nil, {}}, [3]int{}},
		{[][]int{{0}, {0}}, [3]int{}},
		{[][]int{one}, [3]int{784, 174, 7}},
		{[][]int{two}, [3]int{664, 1003, 10}},
		{[][]int{one, two}, [3]int{429, 158, 17}},
		{[][]int{two, one}, [3]int{429, 158, 17}},
		{[][]int{{1}, {1018}}, [3]int{}},
		// shares of different lengths: what a share does not have counts as 0
		{[][]int{{1}, one}, [3]int{588, 887, 8}},
		{[][]int{one, {1}, nil}, [3]int{588, 887, 8}},
		// an invalid share counts as zeros
		{[][]int{{1019}, one, two}, [3]int{429, 158, 17}},
		{[][]int{one, {1, -1}, two}, [3]int{429, 158, 17}},
		{[][]int{one, two, slices.Repeat([]int{1}, 65)}, [3]int{429, 158, 17}},
		{[][]int{{1019}}, [3]int{}},
		{[][]int{{-1}, {1019}}, [3]int{}},
		// more shares than servers
		{[][]int{one, one, one, one, one}, [3]int{863, 870, 35}},
		{slices.Repeat([][]int{{1018}}, 1019), [3]int{}},
		{slices.Repeat([][]int{{1}}, 5000), [3]int{823 * 5000 % 1019, 713 * 5000 % 1019, 5000 % 1019}},
	}
	for _, c := range cases {
		checkJoinedSketch(t, c.shares, 5, c.want)
	}
}

// The sketches of the shares add up to the sketch of the vector, whatever the seeds are.
func TestJoinedSketchIsThatOfTheVector(t *testing.T) {
	for i, v := range someVectors() {
		for j, seeds := range someSeedLists {
			shares := impl.ShareVector(v, seeds)
			seed := someSketchSeeds[(i+j)%len(someSketchSeeds)]
			checkJoinedSketch(t, shares, seed, referenceSketch(v, seed))
			checkJoinedSketch(t, shares, seed, sketchOf(v, seed))
			slices.Reverse(shares)
			checkJoinedSketch(t, shares, seed, sketchOf(v, seed))
		}
	}
	for _, v := range spoiledVectors(3) {
		for _, seeds := range [][]int{{5}, {-5, 5}, {math.MaxInt, 0, math.MinInt}} {
			checkJoinedSketch(t, impl.ShareVector(v, seeds), 7, referenceSketch(remainders(v), 7))
		}
	}
}

func TestJoinSketchesOfInvalidShares(t *testing.T) {
	bad := slices.Concat(spoiledVectors(3), spoiledVectors(1), [][]int{make([]int, 65), elements(65, 1), elements(300, 1)})
	for i, invalid := range bad {
		seed := someSketchSeeds[i%len(someSketchSeeds)]
		for count := range 6 {
			var shares [][]int
			for k := range count {
				shares = append(shares, elements(3, 5+100*k))
			}
			want := joinedSketch(shares, seed)
			for place := range count + 1 {
				checkJoinedSketch(t, slices.Insert(slices.Clone(shares), place, invalid), seed, want)
			}
		}
	}
}

func TestAcceptsSketch(t *testing.T) {
	cases := []struct {
		a, b, m int
		want    bool
	}{
		{0, 0, 0, true}, {0, 5, 0, true}, {0, 0, 5, true}, {0, 1, 1, false}, {1, 0, 5, false}, {1, 5, 0, false}, {1, 0, 0, false},
		{1, 1, 1, true}, {2, 4, 1, true}, {2, 1, 4, true}, {2, 2, 2, true}, {2, 2, 4, false}, {2, 4, 2, false}, {3, 4, 1, false},
		{1018, 1, 1, true}, {1018, 1018, 1018, true}, {1018, 1018, 1, false}, {32, 5, 1, true}, {5, 32, 1, false},
		// numbers count modulo FieldSize
		{-1, 1, 1, true}, {1, -1, -1, true}, {1, -1, 1, false}, {-1, -1, -1, true}, {-2, 4, 1, true}, {-2, -4, -1, true},
		{1019, 0, 7, true}, {0, 1019, 7, true}, {0, 7, 1019, true}, {0, -1019, 7, true}, {1019, 1, 1, false}, {1020, 1, 1, true},
		{1, 1020, 1, true}, {1, 1, 1020, true}, {1, 1, 1018, false}, {2038, 2038, 2038, true}, {2, -1015, 1, true}, {2, 1, 1023, true},
		// products of these numbers themselves would go beyond the range of an int
		{math.MaxInt, 681 * 681 % 1019, 1, true}, {math.MaxInt, math.MaxInt, math.MaxInt, true}, {math.MinInt, math.MinInt, math.MinInt, true},
		{math.MinInt, 337 * 337 % 1019, 1, true}, {math.MinInt, math.MaxInt, math.MaxInt, false}, {math.MaxInt, 0, 0, false},
		{math.MinInt, 0, 0, false}, {0, math.MinInt, math.MinInt, false}, {0, math.MaxInt, math.MinInt, false}, {337, math.MinInt, 337, true},
		{681, 681, math.MaxInt, true}, {math.MaxInt - 681, 0, math.MinInt, true}, {1 << 32, 0, 0, false}, {0, 1 << 32, 1 << 32, false},
	}
	for _, c := range cases {
		if got := impl.AcceptsSketch(c.a, c.b, c.m); got != c.want {
			t.Errorf("AcceptsSketch(%d, %d, %d) = %v, want %v", c.a, c.b, c.m, got, c.want)
		}
	}
}

func TestAcceptsSketchAgainstReference(t *testing.T) {
	for _, a := range someNumbers {
		for _, b := range someNumbers {
			for _, m := range someNumbers {
				if got, want := impl.AcceptsSketch(a, b, m), referenceAccepts(a, b, m); got != want {
					t.Errorf("AcceptsSketch(%d, %d, %d) = %v, want %v", a, b, m, got, want)
				}
			}
		}
	}
}

// For every A and every B but 0 exactly one M is accepted; with B = 0 all are, or none.
func TestAcceptsSketchOfEveryElement(t *testing.T) {
	for _, a := range []int{0, 1, 5, 1018} {
		for b := range 1019 {
			want := 1
			if b == 0 && a == 0 {
				want = 1019
			} else if b == 0 {
				want = 0
			}
			count, countSwapped := 0, 0
			for m := range 1019 {
				if impl.AcceptsSketch(a, b, m) {
					count++
				}
				if impl.AcceptsSketch(a, m, b) {
					countSwapped++
				}
			}
			if count != want || countSwapped != want {
				t.Errorf("AcceptsSketch(%d, %d, m) holds for %d numbers m, and %d when swapped, want %d", a, b, count, countSwapped, want)
			}
		}
	}
}

// What is shared among any number of servers is accepted with every seed if all components are 0.
func TestVectorsOfZerosAreAccepted(t *testing.T) {
	for _, seeds := range someSeedLists {
		for _, length := range append([]int{0}, someLengths...) {
			shares := impl.ShareVector(make([]int, length), seeds)
			for _, seed := range someSketchSeeds {
				checkJoinedSketch(t, shares, seed, [3]int{})
				checkChecked(t, shares, seed, true)
			}
			// zeros beyond the field are zeros too
			checkChecked(t, impl.ShareVector(slices.Repeat([]int{-1019}, length), seeds), 5, true)
		}
	}
	for length := range impl.MaxRows + 1 {
		v := make([]int, length)
		for i, first := range []int{0, -100, length, math.MaxInt - 99} {
			if got := impl.CountAccepting(v, first, 200); got != 200 {
				t.Errorf("%d zeros are accepted with %d of the 200 seeds from %d on", length, got, first)
			}
			shares := impl.ShareVector(v, []int{first, first, first}[:1+i%3])
			checkChecked(t, shares, first, true)
			// the shares themselves are no zeros
			if length > 1 && slices.Equal(shares[0], v) {
				t.Errorf("the first share of %d zeros is %v", length, shares[0])
			}
		}
		checkChecked(t, [][]int{v, v}, length, true)
		checkChecked(t, [][]int{v, v, v, v}, length, true)
	}
	checkChecked(t, [][]int{nil, nil}, 5, true)
	checkChecked(t, [][]int{{}, nil, {}}, 5, true)
	checkChecked(t, [][]int{nil, {}, {}, nil}, 5, true)
}

// What is shared among any number of servers is accepted with every seed if one component is not 0.
func TestVectorsWithOneNonzeroComponentAreAccepted(t *testing.T) {
	for _, length := range someLengths {
		for place := range length {
			for i, element := range someElements {
				v := nonzero(length, map[int]int{place: element})
				for _, seeds := range [][]int{{i}, {i, -place}, {i, math.MaxInt - place, place}} {
					shares := impl.ShareVector(v, seeds)
					for k := range 3 {
						checkChecked(t, shares, someSketchSeeds[(i+place+5*k)%len(someSketchSeeds)], true)
					}
				}
			}
		}
	}
	for _, seeds := range someSeedLists {
		for place := range impl.MaxRows {
			element := someElements[place%len(someElements)]
			shares := impl.ShareVector(nonzero(impl.MaxRows, map[int]int{place: element}), seeds)
			checkChecked(t, shares, place, true)
			checkChecked(t, shares, someSketchSeeds[place%len(someSketchSeeds)], true)
		}
	}
	// the component is not 0 modulo FieldSize, but lies beyond the field
	for _, element := range notElements {
		for place := range 3 {
			for seed := range 20 {
				checkChecked(t, impl.ShareVector(nonzero(3, map[int]int{place: element}), []int{7, 8}), seed, true)
			}
		}
	}
}

func TestOneNonzeroComponentAndManySeeds(t *testing.T) {
	shares := impl.ShareVector([]int{0, 0, 7, 0}, []int{100, 200})
	for _, first := range []int{-1000, 0, impl.Modulus - 1000, math.MaxInt - 1000} {
		for i := range 2000 {
			checkChecked(t, shares, first+i, true)
		}
	}
	for place := range impl.MaxRows {
		for i, element := range someElements {
			v := nonzero(impl.MaxRows, map[int]int{place: element})
			if got := impl.CountAccepting(v, 1000*i-place, 200); got != 200 {
				t.Errorf("%d at place %d of 64 is accepted with %d of 200 seeds", element, place, got)
			}
		}
	}
}

// Vectors with two components that are not 0 are accepted only with the few seeds for which the
// challenges of these two are equal.
func TestVectorsWithTwoNonzeroComponentsAreRarelyAccepted(t *testing.T) {
	accepted, tried := 0, 0
	for j := range impl.MaxRows {
		for i := range j {
			x, y := someElements[(i+j)%len(someElements)], someElements[i*j%len(someElements)]
			first := 200 * (i - j)
			v := nonzero(j+1, map[int]int{i: x, j: y})
			accepted += checkRare(t, v, first)
			tried += 200
			for seed := first; seed < first+200; seed++ {
				want := impl.Challenge(seed, i) == impl.Challenge(seed, j)
				if got := impl.AcceptsSketch(impl.SketchShare(v, seed)); got != want {
					t.Errorf("with the seed %d and the vector %v AcceptsSketch is %v, want %v", seed, v, got, want)
				}
			}
		}
	}
	if accepted*500 > tried || accepted == 0 {
		t.Errorf("vectors with two components that are not 0 are accepted %d times of %d", accepted, tried)
	}
}

// It does not matter how great the two components are, not even if they add up to 0.
func TestEveryPairOfComponentsIsRarelyAccepted(t *testing.T) {
	accepted := 0
	for x := 1; x < 1019; x++ {
		for _, y := range []int{1, x, 1019 - x, 1018} {
			v := []int{x, 0, y}
			accepted += checkRare(t, v, 7*x)
			checkJoinedSketch(t, impl.ShareVector(v, []int{x, y}), x, sketchOf(v, x))
		}
	}
	if accepted > 4*1018*200/500 {
		t.Errorf("pairs of components are accepted %d times", accepted)
	}
}

func TestVectorsWithManyNonzeroComponentsAreRarelyAccepted(t *testing.T) {
	for length := 3; length <= impl.MaxRows; length++ {
		for i, v := range [][]int{elements(length, length), slices.Repeat([]int{1}, length), slices.Repeat([]int{1018}, length),
			nonzero(length, map[int]int{0: 1, length / 2: 1, length - 1: 1017})} {
			checkRare(t, v, 1000*i)
			checkRare(t, v, math.MaxInt-100)
			// the shares are checked in the same way as the vector
			shares := impl.ShareVector(v, []int{length, i, -3}[:1+length%3])
			for seed := range 20 {
				s := referenceSketch(v, seed)
				checkChecked(t, shares, seed, referenceAccepts(s[0], s[1], s[2]))
			}
		}
	}
}

// countChecked returns with how many of 200 seeds the shares are accepted.
func countChecked(shares [][]int) int {
	count := 0
	for seed := range 200 {
		if impl.CheckShares(shares, seed) {
			count++
		}
	}
	return count
}

// A share that is changed afterwards makes a vector with a second component that is not 0, unless there
// was none or the change is made to the same component.
func TestChangedShares(t *testing.T) {
	for _, length := range []int{1, 2, 3, 64} {
		for i, place := range slices.Compact([]int{0, length / 2, length - 1}) {
			for _, changed := range slices.Compact([]int{0, length / 2, length - 1}) {
				for _, seeds := range [][]int{{7}, {7, 8}, {7, 8, 9}} {
					for server := range len(seeds) + 1 {
						for _, element := range []int{0, 5} {
							shares := impl.ShareVector(nonzero(length, map[int]int{place: element}), seeds)
							// 5 and 1014 add up to 0
							shares[server][changed] = (shares[server][changed] + []int{1, 1014, 500}[i]) % 1019
							got := countChecked(shares)
							if place == changed || element == 0 {
								if got != 200 {
									t.Errorf("%v, changed at place %d, is accepted with only %d of 200 seeds", shares, changed, got)
								}
							} else if got > 5 {
								t.Errorf("%v, changed at place %d, is accepted with %d of 200 seeds", shares, changed, got)
							}
						}
					}
				}
			}
		}
	}
}

func TestCheckShares(t *testing.T) {
	cases := []struct {
		shares [][]int
		seed   int
		want   bool
	}{
		{[][]int{{100, 177, 254, 331}, {200, 277, 354, 431}, {719, 565, 418, 257}}, 5, true},
		{[][]int{{100, 177, 254, 331}, {200, 277, 354, 431}, {719, 565, 418, 257}}, 6, true},
		{[][]int{{100, 177, 254, 331}, {200, 277, 354, 431}, {720, 565, 418, 257}}, 5, false},
		{[][]int{{101, 177, 254, 331}, {200, 277, 354, 431}, {719, 565, 418, 257}}, 5, false},
		{[][]int{{100, 177, 254, 331}, {200, 277, 355, 431}, {719, 565, 418, 257}}, 5, true},
		{[][]int{{0}, {0}}, 5, true},
		{[][]int{{1018}, {1018}}, 5, true},
		{[][]int{{1, 0}, {0, 1}}, 5, false},
		{[][]int{{1, 0}, {1018, 1}}, 5, true},
		{[][]int{{1, 2, 3}, {1018, 1017, 1016}}, 5, true},
		// two components that are not 0, with seeds for which their challenges are equal
		{[][]int{{0, 5, 0}, {0, 0, 0}, {0, 0, 0}, {0, 0, 7}}, 2, false},
		{[][]int{{0, 5, 0, 0}, {0, 0, 0, 0}, {0, 0, 0, 7}}, 2, true},
		{[][]int{{0, 5, 0, 0}, {0, 0, 0, 0}, {0, 0, 0, 7}}, 3, false},
		{[][]int{{1, 0, 0, 0, 0, 0}, {0, 0, 0, 0, 0, 1}}, 197, true},
		{[][]int{{1, 0, 0, 0, 0, 0}, {0, 0, 0, 0, 0, 1}}, 198, false},
		{[][]int{{1, 0, 0, 0, 0, 0}, {0, 0, 0, 0, 0, 1}}, 197 - impl.Modulus, true},
		// too few shares, and too many
		{nil, 5, false},
		{[][]int{}, 5, false},
		{[][]int{{0, 7}}, 5, false},
		{[][]int{nil}, 5, false},
		{[][]int{{0}, {0}, {0}, {0}, {0}}, 5, false},
		// different lengths
		{[][]int{{0, 7}, {0}}, 5, false},
		{[][]int{{0}, {0, 7}}, 5, false},
		{[][]int{nil, {0}}, 5, false},
		{[][]int{{0}, nil, {0}}, 5, false},
		// components beyond each limit
		{[][]int{{0, 1019}, {0, 0}}, 5, false},
		{[][]int{{0, 0}, {-1, 0}}, 5, false},
		{[][]int{{math.MinInt}, {math.MaxInt}}, 5, false},
	}
	for _, c := range cases {
		checkChecked(t, c.shares, c.seed, c.want)
	}
}

func TestCheckSharesCount(t *testing.T) {
	for _, v := range [][]int{nil, {}, {0}, {7}, {0, 7, 0}, make([]int, 64), nonzero(64, map[int]int{63: 1018})} {
		for count := range 10 {
			checkChecked(t, slices.Repeat([][]int{v}, count), 5, count >= 2 && count <= 4)
		}
		for _, count := range []int{255, 256, 257, 258, 259, 260, 1 << 16, 1<<16 + 2, 1<<16 + 4} {
			checkChecked(t, slices.Repeat([][]int{v}, count), 5, false)
		}
	}
	shares := impl.ShareVector([]int{0, 7}, []int{5, 6, 7})
	checkChecked(t, shares, 5, true)
	checkChecked(t, append(shares, []int{0, 0}), 5, false)
	checkChecked(t, [][]int{{0, 7}, {0, 0}}, 5, true)
	checkChecked(t, [][]int{{0, 7}}, 5, false)
}

func TestCheckSharesOfDifferentLengths(t *testing.T) {
	for count := 2; count <= 4; count++ {
		for place := range count {
			for _, lengths := range [][2]int{{1, 0}, {0, 1}, {2, 1}, {2, 3}, {64, 63}, {63, 64}, {64, 0}, {0, 64}, {64, 65}, {1, 257}, {0, 256}} {
				shares := slices.Repeat([][]int{make([]int, lengths[0])}, count)
				checkChecked(t, shares, 5, true)
				// all components are 0, so nothing but the length is wrong
				shares[place] = make([]int, lengths[1])
				checkChecked(t, shares, 5, false)
			}
		}
	}
	// the lengths differ in pairs
	checkChecked(t, [][]int{{0}, {0}, {0, 0}, {0, 0}}, 5, false)
	checkChecked(t, [][]int{{0}, {0, 0}, {0, 0, 0}}, 5, false)
}

func TestCheckSharesOfManyComponents(t *testing.T) {
	for _, length := range []int{64, 65, 66, 100, 128, 256, 320, 1000} {
		for count := 2; count <= 4; count++ {
			for _, v := range [][]int{make([]int, length), nonzero(length, map[int]int{0: 5}), nonzero(length, map[int]int{length - 1: 5})} {
				checkChecked(t, slices.Repeat([][]int{v}, count), 5, length == 64)
			}
		}
	}
}

// A component beyond the field is rejected even if the shares add up to a vector that is accepted.
func TestCheckSharesOfOtherNumbers(t *testing.T) {
	for _, length := range []int{1, 2, 3, 64} {
		for _, place := range slices.Compact([]int{0, length / 2, length - 1}) {
			for _, seeds := range [][]int{{7}, {7, 8}, {7, 8, 9}} {
				for server := range len(seeds) + 1 {
					for _, v := range [][]int{make([]int, length), nonzero(length, map[int]int{place: 5})} {
						for _, change := range []int{1019, -1019, 1019 << 40, -1019 << 40} {
							shares := impl.ShareVector(v, seeds)
							checkChecked(t, shares, 5, true)
							shares[server][place] += change
							checkChecked(t, shares, 5, false)
						}
					}
				}
			}
			for _, element := range notElements {
				for count := 2; count <= 4; count++ {
					for server := range count {
						shares := slices.Repeat([][]int{make([]int, length)}, count)
						shares[server] = nonzero(length, map[int]int{place: element})
						checkChecked(t, shares, 5, false)
					}
				}
			}
		}
	}
	for count := 2; count <= 4; count++ {
		checkChecked(t, slices.Repeat([][]int{{1019, 1019}}, count), 5, false)
		checkChecked(t, slices.Repeat([][]int{{-1}}, count), 5, false)
	}
}

func TestCountAccepting(t *testing.T) {
	one, two := nonzero(6, map[int]int{0: 1, 5: 1}), nonzero(34, map[int]int{2: 3, 33: 4})
	three, four := nonzero(8, map[int]int{2: 7, 7: 1018}), nonzero(17, map[int]int{8: 1, 16: 1})
	cases := []struct {
		v            []int
		first, count int
		want         int
	}{
		{[]int{0, 0, 7, 0}, 0, 50, 50},
		{[]int{1, 1, 0}, 0, 50, 0},
		{[]int{0, 5, 0, 7}, 0, 200, 1},
		{[]int{0, 5, 0, 7}, 2, 1, 1},
		{[]int{0, 5, 0, 7}, 3, 200, 0},
		{[]int{0, 5, 0, 7}, 0, 2, 0},
		{[]int{0, 5, 0, 7}, 0, 3, 1},
		{[]int{0, 5, 0, 7}, -197, 200, 1},
		{[]int{0, 5, 0, 7}, -198, 200, 0},
		{[]int{0, 5, 0, 7}, -198, 201, 0},
		{[]int{0, 5, 0, 7}, 2, -1, 0},
		{[]int{0, 5, 0, 7}, 2, 0, 0},
		{one, 0, 197, 0},
		{one, 0, 198, 1},
		{one, 0, 200, 1},
		{two, 0, 200, 2},
		{two, 34, 200, 2},
		{two, 35, 200, 1},
		{two, 34, 161, 1},
		{two, 34, 162, 2},
		{[]int{601, 339, 565}, 0, 200, 2},
		{[]int{601, 339, 565}, 118, 68, 2},
		{[]int{601, 339, 565}, 119, 66, 0},
		// seeds that go beyond the end of int and come back at the other end
		{four, math.MaxInt - 99, 98, 0},
		{four, math.MaxInt - 99, 99, 1},
		{four, math.MaxInt - 99, 102, 1},
		{four, math.MaxInt - 99, 103, 2},
		{four, math.MaxInt - 99, 200, 2},
		{four, math.MinInt, 3, 1},
		{four, math.MinInt + 2, 1, 1},
		{three, math.MaxInt - 99, 199, 0},
		{three, math.MaxInt - 99, 200, 1},
		{three, math.MaxInt - 99, 201, 1},
		{three, math.MinInt + 99, 1, 1},
	}
	for _, c := range cases {
		if got := impl.CountAccepting(c.v, c.first, c.count); got != c.want {
			t.Errorf("CountAccepting(%v, %d, %d) = %d, want %d", c.v, c.first, c.count, got, c.want)
		}
	}
}

// A vector that every seed accepts shows how many of them were tried.
func TestCountAcceptingLimits(t *testing.T) {
	vectors := [][]int{nil, {}, {0}, {7}, make([]int, 64), nonzero(64, map[int]int{63: 1018}), {1019}, {-1}, {1, 2, -1}, make([]int, 65)}
	for _, v := range vectors {
		for _, first := range []int{0, 1, -1, 5000, -5000, impl.Modulus, math.MaxInt, math.MaxInt - 100, math.MinInt} {
			// counts just beyond the limits come first, so the test stops before a missing limit costs hours
			for _, count := range []int{-1, 0, 1, 2, 199, 200, 201, 202, 1000, -200, -201, 1 << 20, 1 << 32, 1<<32 + 5, -1 << 32, 1 << 62,
				impl.MaxValue, -impl.MaxValue, math.MaxInt, math.MaxInt - 1, math.MinInt, math.MinInt + 1} {
				want := min(max(count, 0), 200)
				if got := impl.CountAccepting(v, first, count); got != want {
					t.Fatalf("CountAccepting(%s, %d, %d) = %d, want %d", brief(v), first, count, got, want)
				}
			}
		}
	}
}

func TestCountAcceptingAgainstReference(t *testing.T) {
	for i, v := range someVectors() {
		first := []int{0, -100, math.MaxInt - 20, math.MinInt}[i%4]
		want := 0
		for offset := range 60 {
			if s := referenceSketch(v, first+offset); referenceAccepts(s[0], s[1], s[2]) {
				want++
			}
			if got := impl.CountAccepting(v, first, offset+1); got != want {
				t.Errorf("CountAccepting(%v, %d, %d) = %d, want %d", v, first, offset+1, got, want)
			}
		}
	}
}

// A vector that cannot be sketched has a sketch of zeros, which every seed accepts.
func TestCountAcceptingOfInvalidVectors(t *testing.T) {
	for i, v := range unsketched() {
		first := someSketchSeeds[i%len(someSketchSeeds)]
		for _, count := range []int{0, 1, 7, 201} {
			if got := impl.CountAccepting(v, first, count); got != min(count, 200) {
				t.Errorf("CountAccepting of %d components, %s, from %d on = %d, want %d", len(v), brief(v), first, got, min(count, 200))
			}
		}
	}
}

func TestShareVectorCopies(t *testing.T) {
	vectors := append(someVectors(), []int{-1, 1019}, make([]int, 65))
	for _, content := range vectors {
		for _, list := range append(slices.Clone(someSeedLists), nil, []int{1, 2, 3, 4}) {
			v, unchangedVector := roomy(content)
			seeds, unchangedSeeds := roomy(list)
			got := impl.ShareVector(v, seeds)
			// neither the integers behind the vector nor those behind the seeds are shared
			if !sameList(got, impl.ShareVector(content, list)) {
				t.Errorf("ShareVector(%v, %v) with spare capacity = %v", content, list, got)
			}
			checkFreshList(t, "ShareVector", got, func() bool { return unchangedVector() && unchangedSeeds() })
		}
	}
	// the seeds may be the vector
	same, unchanged := roomy([]int{5, 6, 7})
	got := impl.ShareVector(same, same)
	if !sameList(got, referenceVectors([]int{5, 6, 7}, []int{5, 6, 7})) {
		t.Errorf("ShareVector of one slice as vector and seeds = %v", got)
	}
	checkFreshList(t, "ShareVector of one memory", got, unchanged)
}

func TestSketchesLeaveTheirArguments(t *testing.T) {
	for _, content := range append(someVectors(), []int{-1, 1019}, make([]int, 65)) {
		for i, seed := range someSketchSeeds {
			v, unchanged := roomy(content)
			checkSketch(t, v, seed, sketchOf(content, seed))
			if got, want := impl.CountAccepting(v, seed, i), impl.CountAccepting(content, seed, i); got != want {
				t.Errorf("CountAccepting(%v, %d, %d) with spare capacity = %d, want %d", content, seed, i, got, want)
			}
			if !unchanged() {
				t.Errorf("the vector %v or the spare capacity behind it was changed", content)
			}
		}
	}
	lists := [][][]int{nil, {}, {nil}, {{0, 7}}, {nil, nil}, {{1, 2}, {3}}, {{1019}, {0}}, {{0}, {1}, {2}, {3}, {4}},
		{elements(64, 1), elements(64, 2)}, {make([]int, 65), make([]int, 65)}}
	for _, seeds := range someSeedLists {
		lists = append(lists, impl.ShareVector([]int{0, 7, 0}, seeds), impl.ShareVector([]int{1, 7, 0}, seeds))
	}
	for _, content := range lists {
		for _, seed := range someSketchSeeds {
			shares, unchanged := roomyList(content)
			checkJoinedSketch(t, shares, seed, joinedSketch(content, seed))
			checkChecked(t, shares, seed, impl.CheckShares(content, seed))
			if !unchanged() {
				t.Errorf("the shares %v or the spare capacity behind them were changed", content)
			}
		}
	}
}

// The same memory may be several shares, or parts of it may be.
func TestSketchesOfOneMemory(t *testing.T) {
	same, unchanged := roomy([]int{0, 0, 7, 0})
	checkJoinedSketch(t, [][]int{same, same}, 5, referenceSketch([]int{0, 0, 14, 0}, 5))
	checkJoinedSketch(t, [][]int{same, same[1:], same[2:]}, 5, referenceSketch([]int{7, 7, 7, 0}, 5))
	checkJoinedSketch(t, [][]int{same[:0], same[2:3]}, 5, referenceSketch([]int{7}, 5))
	checkChecked(t, [][]int{same, same}, 5, true)
	checkChecked(t, [][]int{same, same, same, same}, 6, true)
	checkChecked(t, [][]int{same[1:], same[:3]}, 5, false)
	checkChecked(t, [][]int{same[1:], same}, 5, false)
	if !unchanged() {
		t.Error("shares of one memory were changed")
	}
}

// Shares that are written to are not what a later call returns.
func TestVectorsAreFresh(t *testing.T) {
	calls := []func() [][]int{
		func() [][]int { return impl.ShareVector([]int{0, 0, 7, 0}, []int{100, 200}) },
		func() [][]int { return impl.ShareVector(make([]int, 64), []int{9, 9, 9}) },
		func() [][]int { return impl.ShareVector(nil, []int{100, 200}) },
		func() [][]int { return impl.ShareVector([]int{0, 7}, nil) },
		func() [][]int { return impl.ShareVector(make([]int, 65), []int{5}) },
	}
	for i, call := range calls {
		var before [][]int
		for _, share := range call() {
			before = append(before, slices.Clone(share))
		}
		checkFreshList(t, "ShareVector", call(), func() bool { return true })
		if got := call(); !sameList(got, before) {
			t.Errorf("the shares of call %d are %v after earlier ones were written to, want %v", i, got, before)
		}
	}
}
