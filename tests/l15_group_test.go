package tests

import (
	"math"
	"math/big"
	"slices"
	"testing"

	"loop.example/g00516/impl"
)

// someGroupElements lists group elements: 1, the least ones, the greatest ones and others.
var someGroupElements = []int{1, 2, 3, 4, 16, 64, 510, 1020, 1024, 2025, 2026, 2028, 2032}

// notGroupElements lists integers that are no group elements: some from 1 to GroupModulus-1, the ends of
// that range, and those beyond it, most of which have the remainder of an element modulo GroupModulus.
var notGroupElements = []int{0, 7, 11, 13, 14, 1019, 2030, 2031, 2033, 2034, 2035, 2036, 2037, 2038, 2039, 2040, 2041, 2043, 2055,
	4071, 4079, 4 + 2039*2039, 1 + 2039*1000000007, 1 << 32, 1<<32 + 1, 1 << 62, impl.Modulus, impl.MaxValue,
	-1, -2, -4, -7, -1019, -2023, -2035, -2038, -2039, -2040, 4 - 2039*2039, -impl.MaxValue,
	math.MinInt, math.MinInt + 1, math.MaxInt, math.MaxInt - 1,
	math.MaxInt - math.MaxInt%2039 + 1 - 2039, math.MaxInt - math.MaxInt%2039 + 4 - 2039,
	math.MinInt - math.MinInt%2039 + 1, math.MinInt - math.MinInt%2039 + 4}

// someExponents lists exponents, secrets and nonces: small ones, multiples of FieldSize and those about
// them, and the ends of int.
var someExponents = append([]int{2, 3, 4, 7, 31, 32, 33, 100, 1000, 2 * 1019, 1019 * 1019, -1019 * 1019, 1019 * 1000000007,
	impl.Modulus, math.MaxInt - 681, math.MaxInt - 680, math.MaxInt - 682, math.MinInt + 682, math.MinInt + 681, math.MinInt + 683}, someNumbers...)

// groupElements lists the integers from 1 to GroupModulus-1 whose power FieldSize is 1, in ascending order.
func groupElements() []int {
	var list []int
	for x := 1; x <= 2038; x++ {
		if residue(x, 1019) == 1 {
			list = append(list, x)
		}
	}
	return list
}

// otherPairs lists pairs of integers of which the first, the second or each is no group element: every
// integer from 0 to GroupModulus+1 that is none and those of notGroupElements.
func otherPairs() [][2]int {
	others := slices.Clone(notGroupElements)
	for x := range 2041 {
		if !inGroup(x) {
			others = append(others, x)
		}
	}
	var pairs [][2]int
	for _, x := range others {
		for _, y := range someGroupElements {
			pairs = append(pairs, [2]int{x, y}, [2]int{y, x})
		}
		for _, y := range notGroupElements {
			pairs = append(pairs, [2]int{x, y})
		}
		pairs = append(pairs, [2]int{x, x})
	}
	return pairs
}

// residue is the power n of x modulo GroupModulus, with integers that do not wrap around. n must not be negative.
func residue(x int, n int) int {
	return int(new(big.Int).Exp(big.NewInt(int64(x)), big.NewInt(int64(n)), big.NewInt(2039)).Int64())
}

// inGroup tells by the definition whether x is an element.
func inGroup(x int) bool {
	return 1 <= x && x <= 2038 && residue(x, 1019) == 1
}

// referencePower is a power as chapter 15 states it. g must be an element.
func referencePower(g int, n int) int {
	return residue(g, referenceField(big.NewInt(int64(n))))
}

// powersOf returns the powers 0 to FieldSize-1 of g, each of them formed from the one before it.
func powersOf(g int) []int {
	powers := []int{1}
	for len(powers) < 1019 {
		powers = append(powers, powers[len(powers)-1]*g%2039)
	}
	return powers
}

// referenceProofHash is the challenge of the six elements of a proof as chapter 15 states it.
func referenceProofHash(elements ...int) int {
	return referenceHash(slices.Concat([]int{97}, elements, []int{97})) % 1019
}

// referenceProof is a proof as chapter 15 states it. The product and the difference are those of Go's int,
// so what is beyond its range comes back at the other end. g and h must be elements.
func referenceProof(g int, h int, secret int, nonce int) (int, int) {
	c := referenceProofHash(g, h, referencePower(g, secret), referencePower(h, secret), referencePower(g, nonce), referencePower(h, nonce))
	response := new(big.Int).Mul(big.NewInt(int64(c)), big.NewInt(int64(secret)))
	response.Sub(big.NewInt(int64(nonce)), response)
	half := new(big.Int).Lsh(big.NewInt(1), 63)
	response.Mod(response.Add(response, half), new(big.Int).Lsh(big.NewInt(1), 64))
	return c, referenceField(response.Sub(response, half))
}

// claim holds the arguments of VerifyEqual: g, h, u, v, challenge and response.
type claim [6]int

// accepted returns the result of VerifyEqual.
func (p claim) accepted() bool {
	return impl.VerifyEqual(p[0], p[1], p[2], p[3], p[4], p[5])
}

// wanted tells whether a claim is to be accepted as chapter 15 states it.
func (p claim) wanted() bool {
	g, h, u, v, challenge, response := p[0], p[1], p[2], p[3], p[4], p[5]
	if !inGroup(g) || !inGroup(h) || !inGroup(u) || !inGroup(v) {
		return false
	}
	if challenge < 0 || challenge > 1018 || response < 0 || response > 1018 {
		return false
	}
	a := residue(g, response) * residue(u, challenge) % 2039
	b := residue(h, response) * residue(v, challenge) % 2039
	return challenge == referenceProofHash(g, h, u, v, a, b)
}

// proofOf returns what ProveEqual proves with this secret. g and h must be elements.
func proofOf(g int, h int, secret int, nonce int) claim {
	challenge, response := impl.ProveEqual(g, h, secret, nonce)
	return claim{g, h, referencePower(g, secret), referencePower(h, secret), challenge, response}
}

// changed returns p with another argument at this place.
func (p claim) changed(place int, argument int) claim {
	p[place] = argument
	return p
}

// someProofs lists proofs with different bases, equal ones and the base 1, and with exponents of every kind.
func someProofs() []claim {
	return []claim{proofOf(4, 16, 7, 100), proofOf(4, 4, 7, 100), proofOf(2032, 3, 1018, 1), proofOf(3, 2032, 510, 1018),
		proofOf(1, 16, 7, 100), proofOf(16, 1, 7, 100), proofOf(1, 1, 7, 100), proofOf(4, 16, 0, 100), proofOf(4, 16, 7, 0),
		proofOf(4, 16, 0, 0), proofOf(1, 1, 0, 0), proofOf(510, 4, -1, impl.MaxValue)}
}

func TestGroupModulus(t *testing.T) {
	if impl.GroupModulus != 2039 {
		t.Errorf("GroupModulus = %d", impl.GroupModulus)
	}
}

func TestIsGroupElement(t *testing.T) {
	for _, x := range someGroupElements {
		if !impl.IsGroupElement(x) {
			t.Errorf("%d is an element", x)
		}
	}
	for _, x := range notGroupElements {
		if impl.IsGroupElement(x) {
			t.Errorf("%d is no element", x)
		}
	}
}

func TestIsGroupElementOfEveryInteger(t *testing.T) {
	count := 0
	for x := -3 * 2039; x <= 3*2039; x++ {
		got := impl.IsGroupElement(x)
		if got != inGroup(x) {
			t.Errorf("IsGroupElement(%d) = %v", x, got)
		}
		if got {
			count++
		}
	}
	if count != 1019 {
		t.Errorf("%d elements, want FieldSize", count)
	}
}

// The group is that of the squares, and its elements are the powers of any one of them but 1.
func TestGroupElementsAreSquares(t *testing.T) {
	for x := 1; x <= 2038; x++ {
		if square := x * x % 2039; !impl.IsGroupElement(square) {
			t.Errorf("the square %d of %d is no element", square, x)
		}
		// -1 is no square, so of two integers that add up to GroupModulus one is an element.
		if impl.IsGroupElement(x) == impl.IsGroupElement(2039-x) {
			t.Errorf("IsGroupElement(%d) is IsGroupElement(%d)", x, 2039-x)
		}
	}
	for _, g := range someGroupElements[1:] {
		powers := powersOf(g)
		slices.Sort(powers)
		if !slices.Equal(powers, groupElements()) {
			t.Errorf("the powers of %d are other elements", g)
		}
	}
}

func TestPowGroup(t *testing.T) {
	cases := []struct{ g, n, want int }{
		{4, 0, 1}, {4, 1, 4}, {4, 2, 16}, {4, 3, 64}, {4, 5, 1024}, {4, 10, 530}, {4, 509, 1020}, {4, 510, 2}, {4, 1017, 1147},
		{2032, 2, 49}, {2032, 3, 1696}, {2032, 100, 296}, {2, 11, 9},
		// the exponent is reduced
		{4, 1018, 510}, {4, 1019, 1}, {4, 1020, 4}, {4, -1, 510}, {4, -2, 1147}, {4, -1018, 4}, {4, -1019, 1}, {4, -1020, 510},
		{4, impl.Modulus, 1285}, {4, impl.MaxValue, 300}, {4, -impl.MaxValue, 1638}, {4, math.MaxInt, 1262}, {4, math.MinInt, 1936},
		{4, math.MaxInt - 681, 1}, {4, math.MinInt + 682, 1}, {2032, math.MaxInt, 405}, {2032, math.MinInt, 1186},
		// the element 1
		{1, 0, 1}, {1, 1, 1}, {1, -1, 1}, {1, 1018, 1}, {1, 1019, 1}, {1, math.MinInt, 1}, {1, math.MaxInt, 1},
		// what is no element has no powers, not even the power 0
		{0, 0, 0}, {0, 1, 0}, {0, 1019, 0}, {2038, 0, 0}, {2038, 1, 0}, {2038, 2, 0}, {2039, 0, 0}, {2040, 3, 0}, {2043, 3, 0},
		{-1, 0, 0}, {-1, 2, 0}, {-2035, 3, 0}, {7, 0, 0}, {7, 2, 0}, {math.MinInt, 0, 0}, {math.MaxInt, 0, 0},
	}
	for _, c := range cases {
		if got := impl.PowGroup(c.g, c.n); got != c.want {
			t.Errorf("PowGroup(%d, %d) = %d, want %d", c.g, c.n, got, c.want)
		}
	}
}

func TestPowGroupAgainstReference(t *testing.T) {
	for _, g := range groupElements() {
		for _, n := range someExponents {
			if got, want := impl.PowGroup(g, n), referencePower(g, n); got != want {
				t.Fatalf("PowGroup(%d, %d) = %d, want %d", g, n, got, want)
			}
		}
	}
}

// Every power is an element: the one before it times g.
func TestPowGroupIsRepeatedMulGroup(t *testing.T) {
	for _, g := range groupElements() {
		power := 1
		for n := range 1019 {
			if got := impl.PowGroup(g, n); got != power || !impl.IsGroupElement(got) {
				t.Fatalf("PowGroup(%d, %d) = %d, want the element %d", g, n, got, power)
			}
			power = impl.MulGroup(power, g)
		}
		if power != 1 {
			t.Fatalf("the product of FieldSize times %d is %d", g, power)
		}
	}
}

func TestExponentsAddUpAndMultiply(t *testing.T) {
	for _, g := range someGroupElements {
		for n := -5; n <= 1025; n += 10 {
			for m := -7; m <= 1030; m += 17 {
				product := impl.MulGroup(impl.PowGroup(g, n), impl.PowGroup(g, m))
				if sum := impl.PowGroup(g, n+m); product != sum {
					t.Fatalf("%d to the power %d times that to the power %d is %d, want %d", g, n, m, product, sum)
				}
				twice := impl.PowGroup(impl.PowGroup(g, n), m)
				if power := impl.PowGroup(g, n*m); twice != power {
					t.Fatalf("%d to the power %d to the power %d is %d, want %d", g, n, m, twice, power)
				}
			}
		}
	}
}

// The power of a product is the product of the powers.
func TestPowersOfProducts(t *testing.T) {
	for _, a := range someGroupElements {
		for _, b := range groupElements() {
			for _, n := range []int{0, 1, 2, 510, 1018, -1, math.MinInt, math.MaxInt} {
				got := impl.PowGroup(impl.MulGroup(a, b), n)
				if want := impl.MulGroup(impl.PowGroup(a, n), impl.PowGroup(b, n)); got != want {
					t.Fatalf("the power %d of %d times %d is %d, want %d", n, a, b, got, want)
				}
			}
		}
	}
}

func TestPowGroupRejects(t *testing.T) {
	for x := range 2041 {
		if inGroup(x) {
			continue
		}
		for _, n := range someExponents {
			if got := impl.PowGroup(x, n); got != 0 {
				t.Fatalf("PowGroup(%d, %d) = %d", x, n, got)
			}
		}
	}
	for _, x := range notGroupElements {
		for _, n := range someExponents {
			if got := impl.PowGroup(x, n); got != 0 {
				t.Errorf("PowGroup(%d, %d) = %d", x, n, got)
			}
		}
	}
}

func TestMulGroup(t *testing.T) {
	cases := []struct{ a, b, want int }{
		{4, 4, 16}, {64, 64, 18}, {4, 510, 1}, {510, 4, 1}, {2032, 2032, 49}, {2032, 4, 2011}, {2, 1020, 1}, {1024, 2, 9},
		{1, 1, 1}, {1, 4, 4}, {4, 1, 4}, {1, 2032, 2032}, {2032, 1, 2032},
		{0, 0, 0}, {0, 1, 0}, {1, 0, 0}, {4, 2038, 0}, {2038, 4, 0}, {1, 2038, 0}, {2038, 1, 0}, {4, 2039, 0}, {1, 2040, 0}, {2040, 1, 0},
		{4, 2043, 0}, {-2035, 4, 0}, {-1, 4, 0}, {1, math.MaxInt, 0}, {math.MinInt, 1, 0},
		// their products would be elements
		{2038, 2038, 0}, {7, 7, 0}, {7, 11, 0}, {-1, -1, 0}, {-4, -4, 0}, {2040, 2040, 0},
	}
	for _, c := range cases {
		if got := impl.MulGroup(c.a, c.b); got != c.want {
			t.Errorf("MulGroup(%d, %d) = %d, want %d", c.a, c.b, got, c.want)
		}
	}
}

// The product of any two elements is an element.
func TestGroupIsClosed(t *testing.T) {
	elements := groupElements()
	isElement := make([]bool, 2039)
	for _, x := range elements {
		isElement[x] = true
	}
	for _, a := range elements {
		for _, b := range elements {
			got := impl.MulGroup(a, b)
			if got != a*b%2039 || !isElement[got] {
				t.Fatalf("MulGroup(%d, %d) = %d, want the element %d", a, b, got, a*b%2039)
			}
		}
	}
}

func TestMulGroupIsAssociative(t *testing.T) {
	for _, a := range someGroupElements {
		for _, b := range someGroupElements {
			for _, c := range groupElements() {
				left, right := impl.MulGroup(impl.MulGroup(a, b), c), impl.MulGroup(a, impl.MulGroup(b, c))
				if left != right {
					t.Fatalf("the products of %d, %d and %d are %d and %d", a, b, c, left, right)
				}
			}
		}
	}
}

// Every element has an inverse, and only one.
func TestGroupHasInverses(t *testing.T) {
	elements := groupElements()
	for _, x := range elements {
		inverse := impl.PowGroup(x, -1)
		if !impl.IsGroupElement(inverse) || impl.MulGroup(x, inverse) != 1 || impl.MulGroup(inverse, x) != 1 {
			t.Fatalf("PowGroup(%d, -1) = %d is no inverse", x, inverse)
		}
		if impl.MulGroup(x, 1) != x || impl.MulGroup(1, x) != x {
			t.Fatalf("%d times 1 is another element", x)
		}
		count := 0
		for _, y := range elements {
			if impl.MulGroup(x, y) == 1 {
				count++
			}
		}
		if count != 1 {
			t.Fatalf("%d has %d inverses", x, count)
		}
	}
}

func TestMulGroupRejects(t *testing.T) {
	for _, pair := range otherPairs() {
		if got := impl.MulGroup(pair[0], pair[1]); got != 0 {
			t.Fatalf("MulGroup(%d, %d) = %d", pair[0], pair[1], got)
		}
	}
}

func TestInverseExponent(t *testing.T) {
	cases := []struct{ n, want int }{
		{1, 1}, {2, 510}, {3, 340}, {5, 204}, {10, 102}, {100, 214}, {509, 1017}, {510, 2}, {1017, 509}, {1018, 1018},
		// 0 modulo FieldSize
		{0, 0}, {1019, 0}, {-1019, 0}, {2038, 0}, {1019 * 1019, 0}, {1019 * 1000000007, 0}, {math.MaxInt - 681, 0}, {math.MinInt + 682, 0},
		// the remainder of n counts
		{1020, 1}, {1021, 510}, {-1, 1018}, {-2, 509}, {-1018, 1}, {-1020, 1018}, {impl.Modulus, 753}, {impl.MaxValue, 459},
		{-impl.MaxValue, 560}, {math.MaxInt, 612}, {math.MaxInt - 680, 1}, {math.MinInt, 127}, {math.MinInt + 683, 1}, {math.MinInt + 681, 1018},
	}
	for _, c := range cases {
		if got := impl.InverseExponent(c.n); got != c.want {
			t.Errorf("InverseExponent(%d) = %d, want %d", c.n, got, c.want)
		}
	}
}

func TestInverseExponentOfEveryExponent(t *testing.T) {
	seen := map[int]bool{}
	for n := 1; n <= 1018; n++ {
		m := impl.InverseExponent(n)
		if m < 1 || m > 1018 || n*m%1019 != 1 || impl.InverseExponent(m) != n {
			t.Fatalf("InverseExponent(%d) = %d", n, m)
		}
		for _, other := range []int{n + 1019, n - 1019, n + 1019*1000000007, n - 1019*1000000007} {
			if got := impl.InverseExponent(other); got != m {
				t.Fatalf("InverseExponent(%d) = %d, want that of %d, %d", other, got, n, m)
			}
		}
		seen[m] = true
	}
	if len(seen) != 1018 {
		t.Errorf("%d different inverses, want 1018", len(seen))
	}
}

// An inverse takes the power of every element back.
func TestInverseExponentTakesPowersBack(t *testing.T) {
	for _, x := range groupElements() {
		for n := 1; n <= 1018; n += 9 {
			if got := impl.PowGroup(impl.PowGroup(x, n), impl.InverseExponent(n)); got != x {
				t.Fatalf("%d to the power %d and to the power of its inverse is %d", x, n, got)
			}
		}
	}
	for _, n := range someExponents {
		want := 4
		if n%1019 == 0 {
			want = 1
		}
		if got := impl.PowGroup(impl.PowGroup(4, n), impl.InverseExponent(n)); got != want {
			t.Errorf("4 to the power %d and to the power of its inverse is %d, want %d", n, got, want)
		}
	}
}

func TestHashToGroup(t *testing.T) {
	cases := []struct{ label, value, want int }{
		{101, 5, 1882}, {101, 0, 50}, {101, 100000, 1821}, {0, 0, 553}, {0, 5, 542}, {-1, -1, 1690}, {1, -5, 480},
		{impl.Modulus, 5, 542}, {101, 5 + impl.Modulus, 1882}, {101, impl.MaxValue, 1106},
		{math.MinInt, math.MaxInt, 361}, {math.MaxInt, math.MinInt, 1096},
		// the exponents 1 and FieldSize-1
		{101, 1654, 4}, {101, 707, 510},
	}
	for _, c := range cases {
		if got := impl.HashToGroup(c.label, c.value); got != c.want {
			t.Errorf("HashToGroup(%d, %d) = %d, want %d", c.label, c.value, got, c.want)
		}
	}
}

func TestHashToGroupAgainstReference(t *testing.T) {
	numbers := append([]int{5, 89, 101, 1000, -89, 1<<32 + 1}, someKeys...)
	for _, label := range numbers {
		for _, value := range numbers {
			exponent := 1 + referenceChild(referenceHash([]int{label, 89, value, label}), 0)%1018
			got := impl.HashToGroup(label, value)
			if want := residue(4, exponent); got != want {
				t.Errorf("HashToGroup(%d, %d) = %d, want %d", label, value, got, want)
			}
			if also := impl.PowGroup(4, 1+impl.ChildSeed(impl.KeyedHash(label, []int{89, value}), 0)%1018); got != also {
				t.Errorf("HashToGroup(%d, %d) = %d, want the power %d", label, value, got, also)
			}
		}
	}
}

// A hash is every element but 1.
func TestHashToGroupRange(t *testing.T) {
	seen := map[int]bool{}
	for value := range 20000 {
		x := impl.HashToGroup(101, value)
		if x == 1 || !impl.IsGroupElement(x) {
			t.Fatalf("HashToGroup(101, %d) = %d", value, x)
		}
		seen[x] = true
	}
	if len(seen) != 1018 {
		t.Errorf("%d different hashes, want 1018", len(seen))
	}
}

func TestProveEqual(t *testing.T) {
	cases := []struct{ g, h, secret, nonce, challenge, response int }{
		{4, 16, 7, 100, 148, 83}, {4, 16, 0, 0, 337, 0}, {4, 16, 0, 5, 994, 5}, {4, 16, 5, 0, 330, 388}, {4, 4, 7, 100, 643, 694},
		{4, 16, 1018, 1018, 361, 360}, {4, 16, 1019, 1019, 337, 0}, {4, 16, 1020, 100, 621, 498}, {4, 16, 1026, 1119, 148, 83},
		{2032, 1024, -1, -1, 908, 907}, {4, 16, impl.MaxValue, -impl.MaxValue, 545, 485}, {4, 16, 7, math.MaxInt, 862, 761},
		// the element 1
		{1, 16, 7, 100, 452, 1012}, {16, 1, 7, 100, 518, 550}, {1, 1, 7, 100, 674, 477}, {1, 1, 0, 0, 674, 0},
		// the product or the difference is beyond the range of int and comes back at the other end
		{4, 16, math.MaxInt, 0, 650, 650}, {4, 16, math.MinInt, math.MaxInt, 244, 681}, {4, 16, 7, math.MinInt, 386, 18},
		{4, 16, math.MaxInt, math.MinInt, 29, 29}, {4, 16, math.MinInt, math.MinInt, 17, 0}, {4, 16, math.MaxInt, math.MaxInt, 505, 504},
		// no elements
		{0, 16, 7, 100, 0, 0}, {4, 0, 7, 100, 0, 0}, {0, 0, 7, 100, 0, 0}, {4, 2038, 7, 100, 0, 0}, {2038, 16, 7, 100, 0, 0},
		{2043, 16, 7, 100, 0, 0}, {4, 2055, 7, 100, 0, 0}, {-2035, 16, 7, 100, 0, 0}, {7, 7, 0, 0, 0, 0},
	}
	for _, c := range cases {
		challenge, response := impl.ProveEqual(c.g, c.h, c.secret, c.nonce)
		if challenge != c.challenge || response != c.response {
			t.Errorf("ProveEqual(%d, %d, %d, %d) = %d, %d, want %d, %d", c.g, c.h, c.secret, c.nonce, challenge, response, c.challenge, c.response)
		}
	}
}

func TestProveEqualAgainstReference(t *testing.T) {
	for _, bases := range [][2]int{{4, 16}, {16, 4}, {4, 4}, {2032, 3}, {1, 16}, {4, 1}, {1, 1}} {
		g, h := bases[0], bases[1]
		for _, secret := range someExponents {
			for _, nonce := range someExponents {
				challenge, response := impl.ProveEqual(g, h, secret, nonce)
				wantChallenge, wantResponse := referenceProof(g, h, secret, nonce)
				if challenge != wantChallenge || response != wantResponse {
					t.Fatalf("ProveEqual(%d, %d, %d, %d) = %d, %d, want %d, %d", g, h, secret, nonce, challenge, response, wantChallenge, wantResponse)
				}
			}
		}
	}
}

func TestProveEqualRejects(t *testing.T) {
	for _, pair := range otherPairs() {
		for _, secret := range []int{0, 7, 1019, math.MinInt} {
			if challenge, response := impl.ProveEqual(pair[0], pair[1], secret, 100); challenge != 0 || response != 0 {
				t.Fatalf("ProveEqual(%d, %d, %d, 100) = %d, %d", pair[0], pair[1], secret, challenge, response)
			}
		}
	}
}

// What is proved is accepted, as long as no number of the proof is so great that it wraps around.
func TestVerifyEqualAcceptsProofs(t *testing.T) {
	check := func(g int, h int, secret int, nonce int) {
		t.Helper()
		if p := proofOf(g, h, secret, nonce); !p.accepted() || !p.wanted() {
			t.Fatalf("the proof %v with the secret %d and the nonce %d is not accepted", p, secret, nonce)
		}
	}
	for _, g := range someGroupElements {
		for _, h := range someGroupElements {
			for _, secret := range []int{0, 1, 7, 510, 1018, 1019, 1020, -1, -1019, impl.MaxValue, -impl.MaxValue} {
				for _, nonce := range []int{0, 1, 100, 1018, 1019, -1, impl.MaxValue, -impl.MaxValue} {
					check(g, h, secret, nonce)
				}
			}
		}
	}
	for secret := range 1019 {
		check(4, 16, secret, 100)
		check(2032, 3, 7, secret)
	}
	for _, x := range groupElements() {
		check(x, 16, 7, 100)
		check(4, x, 7, 100)
	}
}

func TestVerifyEqual(t *testing.T) {
	cases := []struct {
		p    claim
		want bool
	}{
		{claim{4, 16, 72, 1106, 148, 83}, true},
		// one argument is another
		{claim{3, 16, 72, 1106, 148, 83}, false}, {claim{4, 4, 72, 1106, 148, 83}, false}, {claim{4, 16, 64, 1106, 148, 83}, false},
		{claim{4, 16, 72, 64, 148, 83}, false}, {claim{4, 16, 72, 1106, 149, 83}, false}, {claim{4, 16, 72, 1106, 148, 84}, false},
		// arguments are exchanged
		{claim{16, 4, 72, 1106, 148, 83}, false}, {claim{4, 16, 1106, 72, 148, 83}, false}, {claim{16, 4, 1106, 72, 148, 83}, false},
		{claim{72, 1106, 4, 16, 148, 83}, false},
		// there are so few challenges that this one, exchanged with the response, is right by chance
		{claim{4, 16, 72, 1106, 83, 148}, true},
		// one argument has the same remainder
		{claim{2043, 16, 72, 1106, 148, 83}, false}, {claim{4, 2055, 72, 1106, 148, 83}, false}, {claim{4, 16, 2111, 1106, 148, 83}, false},
		{claim{4, 16, 72, 3145, 148, 83}, false}, {claim{4, 16, 72, 1106, 1167, 83}, false}, {claim{4, 16, 72, 1106, 148, 1102}, false},
		{claim{4, 16, 72, 1106, -871, 83}, false}, {claim{4, 16, 72, 1106, 148, -936}, false},
		// the element 1, also where every power of a base is 1
		{claim{1, 1, 1, 1, 674, 0}, true}, {claim{1, 1, 1, 1, 674, 477}, true}, {claim{1, 1, 1, 1, 674, 1018}, true},
		{claim{1, 1, 1, 1, 674, 1019}, false}, {claim{1, 1, 1, 1, 674, -1}, false}, {claim{1, 1, 1, 1, 673, 0}, false},
		{claim{1, 16, 1, 1106, 452, 1012}, true}, {claim{16, 1, 1106, 1, 518, 550}, true}, {claim{4, 16, 1, 1, 337, 0}, true},
		{claim{1, 1, 1, 1, 0, 0}, false}, {claim{}, false}, {claim{2038, 2038, 2038, 2038, 0, 0}, false}, {claim{0, 16, 0, 1106, 0, 0}, false},
	}
	for _, c := range cases {
		if got := c.p.accepted(); got != c.want || got != c.p.wanted() {
			t.Errorf("VerifyEqual of %v = %v, want %v", c.p, got, c.want)
		}
	}
}

// A proof of which one argument is changed is accepted only if the formula says so, which is rare.
func TestVerifyEqualOfChangedProofs(t *testing.T) {
	elements := groupElements()
	for _, p := range someProofs() {
		accepted := 0
		check := func(place int, argument int) {
			t.Helper()
			other := p.changed(place, argument)
			got := other.accepted()
			if got != other.wanted() {
				t.Fatalf("VerifyEqual of %v = %v", other, got)
			}
			// Where both bases are 1, a response counts for nothing.
			if got && other != p && p[0]*p[1] != 1 {
				accepted++
			}
		}
		for i, x := range elements {
			for place := range 4 {
				check(place, x)
			}
			check(4, i)
			check(5, i)
		}
		if accepted > 20 {
			t.Errorf("%d of 6108 changes of %v are accepted", accepted, p)
		}
	}
}

func TestVerifyEqualRejects(t *testing.T) {
	reject := func(p claim) {
		t.Helper()
		if p.accepted() {
			t.Fatalf("VerifyEqual of %v = true", p)
		}
	}
	numbers := []int{-1, -2, -1018, -1019, 1019, 1020, 2038, 1 << 32, impl.MaxValue, -impl.MaxValue, math.MinInt, math.MinInt + 1,
		math.MaxInt, math.MaxInt - 1}
	for _, p := range someProofs() {
		for _, x := range notGroupElements {
			for place := range 4 {
				reject(p.changed(place, x))
				for second := range place {
					reject(p.changed(place, x).changed(second, x))
				}
			}
			reject(claim{x, x, x, x, p[4], p[5]})
		}
		for place := range 4 {
			// the same remainder
			reject(p.changed(place, p[place]+2039))
			reject(p.changed(place, p[place]-2039))
			// never an element
			reject(p.changed(place, 2039-p[place]))
		}
		for place := 4; place < 6; place++ {
			for k := 1; k < 1<<52; k *= 3 {
				reject(p.changed(place, p[place]+1019*k))
				reject(p.changed(place, p[place]-1019*k))
			}
			for _, n := range numbers {
				reject(p.changed(place, n))
			}
		}
	}
}

// What would be accepted if powers and products of what is no element were 0.
func TestVerifyEqualOfNoElements(t *testing.T) {
	for _, x := range []int{0, 7, 2038, 2039, 2043, -1} {
		for place := range 4 {
			p := claim{4, 16, 72, 1106}
			p[place] = x
			a, b := 0, 0
			if place == 0 || place == 2 {
				b = 16
			} else {
				a = 4
			}
			for _, hashed := range [][]int{{a, b}, {0, 0}, {b, a}} {
				p[4] = referenceProofHash(p[0], p[1], p[2], p[3], hashed[0], hashed[1])
				for response := range 1019 {
					p[5] = response
					if p.accepted() {
						t.Fatalf("VerifyEqual of %v = true", p)
					}
				}
			}
		}
	}
}

// For two different exponents there is no proof but one by chance.
func TestVerifyEqualOfDifferentExponents(t *testing.T) {
	accepted := 0
	for secret := range 1019 {
		for _, other := range []int{secret + 1, 1018 - secret, 0, 7} {
			challenge, response := impl.ProveEqual(4, 16, secret, 100)
			p := claim{4, 16, referencePower(4, secret), referencePower(16, other), challenge, response}
			got := p.accepted()
			if got != p.wanted() {
				t.Fatalf("VerifyEqual of %v = %v", p, got)
			}
			if got && (secret-other)%1019 != 0 {
				accepted++
			}
		}
	}
	if accepted > 20 {
		t.Errorf("%d of more than 4000 proofs for different exponents are accepted", accepted)
	}
}

func TestDiscreteLog(t *testing.T) {
	cases := []struct{ g, x, want int }{
		{4, 4, 1}, {4, 16, 2}, {4, 64, 3}, {4, 18, 6}, {16, 4, 510}, {4, 2, 510}, {2032, 4, 650}, {4, 2032, 660}, {9, 4, 556}, {4, 510, 1018},
		// the element 1
		{4, 1, 0}, {2, 1, 0}, {2032, 1, 0}, {1, 1, -1}, {1, 4, -1}, {1, 2032, -1}, {1, 0, -1}, {1, 2038, -1}, {1, 7, -1},
		// no elements
		{4, 0, -1}, {4, 2038, -1}, {4, 7, -1}, {4, 2039, -1}, {4, 2040, -1}, {4, 2043, -1}, {4, -2035, -1}, {4, -1, -1},
		{4, math.MinInt, -1}, {4, math.MaxInt, -1}, {0, 4, -1}, {0, 0, -1}, {0, 1, -1}, {2038, 4, -1}, {2038, 2038, -1}, {2038, 1, -1},
		{7, 7, -1}, {7, 49, -1}, {7, 1, -1}, {2039, 1, -1}, {2040, 1, -1}, {2040, 4, -1}, {2043, 64, -1}, {-2035, 64, -1}, {-1, 1, -1},
		{math.MinInt, 1, -1}, {math.MaxInt, 1, -1},
	}
	for _, c := range cases {
		if got := impl.DiscreteLog(c.g, c.x); got != c.want {
			t.Errorf("DiscreteLog(%d, %d) = %d, want %d", c.g, c.x, got, c.want)
		}
	}
}

// Every element has one logarithm to every base but 1.
func TestDiscreteLogOfEveryElement(t *testing.T) {
	for _, g := range someGroupElements[1:] {
		for exponent, x := range powersOf(g) {
			if got := impl.DiscreteLog(g, x); got != exponent || impl.PowGroup(g, got) != x {
				t.Fatalf("DiscreteLog(%d, %d) = %d, want %d", g, x, got, exponent)
			}
		}
	}
}

func TestDiscreteLogToEveryBase(t *testing.T) {
	for _, g := range groupElements()[1:] {
		for _, exponent := range []int{0, 1, 2, 30, 31, 32, 33, 63, 64, 510, 990, 991, 992, 993, 1017, 1018} {
			x := residue(g, exponent)
			if got := impl.DiscreteLog(g, x); got != exponent {
				t.Fatalf("DiscreteLog(%d, %d) = %d, want %d", g, x, got, exponent)
			}
		}
	}
}

// There is no logarithm of or to the base of what is no element, and none at all to the base 1.
func TestDiscreteLogRejects(t *testing.T) {
	pairs := otherPairs()
	for x := -1; x <= 2040; x++ {
		pairs = append(pairs, [2]int{1, x})
	}
	for _, pair := range pairs {
		if got := impl.DiscreteLog(pair[0], pair[1]); got != -1 {
			t.Fatalf("DiscreteLog(%d, %d) = %d, want -1", pair[0], pair[1], got)
		}
	}
}

// What is asked before, and in which order, makes no difference.
func TestDiscreteLogKeepsNothing(t *testing.T) {
	type question struct{ g, x int }
	var questions []question
	for _, g := range append([]int{0, 7, 2038, 2043}, someGroupElements...) {
		for _, x := range append([]int{0, 7, 2038, 2043}, someGroupElements...) {
			questions = append(questions, question{g, x})
		}
	}
	answers := map[question]int{}
	for _, q := range questions {
		answers[q] = impl.DiscreteLog(q.g, q.x)
	}
	check := func(q question) {
		t.Helper()
		if got := impl.DiscreteLog(q.g, q.x); got != answers[q] {
			t.Fatalf("DiscreteLog(%d, %d) = %d, but it was %d", q.g, q.x, got, answers[q])
		}
	}
	for _, q := range slices.Backward(questions) {
		check(q)
		check(q)
	}
	for i := range questions {
		check(questions[i*101%len(questions)])
	}
}

// Every product and every power of 1 is what it is for any element, and nothing else has these.
func TestElementOne(t *testing.T) {
	for _, x := range groupElements() {
		if got := impl.MulGroup(1, x); got != x {
			t.Errorf("MulGroup(1, %d) = %d", x, got)
		}
		if got := impl.PowGroup(x, 0); got != 1 {
			t.Errorf("PowGroup(%d, 0) = %d", x, got)
		}
		// FieldSize is a prime, so no other power below it is 1.
		for n := 1; n <= 1018; n += 5 {
			if got := impl.PowGroup(x, n); (got == 1) != (x == 1) {
				t.Fatalf("PowGroup(%d, %d) = %d", x, n, got)
			}
		}
	}
	for _, n := range someExponents {
		if got := impl.PowGroup(1, n); got != 1 {
			t.Errorf("PowGroup(1, %d) = %d", n, got)
		}
	}
}
