package tests

import (
	"bytes"
	"math"
	"math/big"
	"slices"
	"testing"

	"loop.example/g00516/impl"
)

// someSeedLists lists seeds for every allowed number of shares, with equal ones, with seeds at and beyond
// their range, and with the least and the greatest integer.
var someSeedLists = [][]int{{0}, {9}, {-1}, {impl.Modulus}, {math.MinInt}, {math.MaxInt}, {1018}, {1019}, {5, 6}, {6, 5}, {9, 9},
	{0, -1}, {impl.Modulus - 1, impl.Modulus}, {math.MinInt, math.MaxInt}, {math.MaxInt, math.MaxInt}, {1000, 1020}, {1, 2, 3}, {3, 3, 3},
	{-1, 0, impl.Modulus}, {1018, 1018, 1018}, {math.MinInt, math.MinInt, math.MinInt}, {math.MaxInt, math.MaxInt, math.MaxInt},
	{impl.MaxValue, -impl.MaxValue, -1019}}

// badSeedLists lists seeds that make too few shares or too many.
func badSeedLists() [][]int {
	lists := [][]int{nil, {}, {1, 2, 3, 4}, {0, 0, 0, 0}, {1, 2, 3, 4, 5}}
	for _, length := range []int{6, 7, 255, 256, 257, 1000, 1 << 16, 1<<16 + 1, 1<<16 + 2} {
		lists = append(lists, make([]int, length))
	}
	return lists
}

// someSecrets lists byte strings that can be shared, with and without bytes, and about as long as MaxStream.
func someSecrets() [][]byte {
	return [][]byte{nil, {}, {0}, {255}, []byte("hi"), {0, 0, 0}, mixed(24, 5), mixed(399, 1), mixed(400, 2), make([]byte, 400)}
}

// longSecrets lists byte strings of more than MaxStream bytes.
func longSecrets() [][]byte {
	return [][]byte{mixed(401, 1), make([]byte, 401), mixed(402, 2), mixed(656, 3), mixed(800, 4), mixed(5000, 5)}
}

// someNumbers lists integers about the limits of the field and of the other ranges.
var someNumbers = []int{0, 1, 5, 509, 510, 1017, 1018, 1019, 1020, 2037, 2038, 2039, -1, -2, -1018, -1019, -1020, -2038,
	impl.MaxValue, -impl.MaxValue, 1 << 62, math.MaxInt, math.MaxInt - 1, math.MaxInt - 1018, math.MaxInt - 1019,
	math.MinInt, math.MinInt + 1, math.MinInt + 1018, math.MinInt + 1019}

// referenceShares are the shares of a secret as chapter 7 states them.
func referenceShares(secret []byte, seeds []int) [][]byte {
	var shares [][]byte
	for _, seed := range seeds {
		shares = append(shares, referenceStream(seed, len(secret)))
	}
	return append(shares, referenceXor(append(slices.Clone(shares), secret)...))
}

// referenceField is the remainder of n modulo FieldSize. Mod of package big is never negative.
func referenceField(n *big.Int) int {
	return int(new(big.Int).Mod(n, big.NewInt(1019)).Int64())
}

// referenceNumbers are the shares of a number, computed with integers that do not wrap around.
func referenceNumbers(secret int, seeds []int) []int {
	var shares []int
	rest := big.NewInt(int64(secret))
	for _, seed := range seeds {
		share := referenceField(big.NewInt(int64(seed)))
		shares = append(shares, share)
		rest.Sub(rest, big.NewInt(int64(share)))
	}
	return append(shares, referenceField(rest))
}

// referenceSum is the sum of the shares modulo FieldSize. The sum itself is that of Go's int, so what is
// beyond its range comes back at the other end.
func referenceSum(shares []int) int {
	sum := new(big.Int)
	for _, share := range shares {
		sum.Add(sum, big.NewInt(int64(share)))
	}
	half := new(big.Int).Lsh(big.NewInt(1), 63)
	sum.Add(sum, half)
	sum.Mod(sum, new(big.Int).Lsh(big.NewInt(1), 64))
	return referenceField(sum.Sub(sum, half))
}

// without returns the elements of list but the one with this index.
func without[T any](list []T, index int) []T {
	return slices.Concat(list[:index], list[index+1:])
}

// sameList reports whether the elements have the same content; it does not use the package under test.
func sameList[T byte | int](a [][]T, b [][]T) bool {
	return slices.EqualFunc(a, b, slices.Equal[[]T])
}

// checkJoined reports an error if the shares do not yield the secret.
func checkJoined(t *testing.T, shares [][]byte, secret []byte) {
	t.Helper()
	if got, ok := impl.JoinShares(shares); !ok || !bytes.Equal(got, secret) {
		t.Errorf("JoinShares(%v) = %v, %v, want %v", shares, got, ok, secret)
	}
}

// rejectJoined reports an error if the shares are joined.
func rejectJoined(t *testing.T, shares [][]byte) {
	t.Helper()
	if got, ok := impl.JoinShares(shares); ok || len(got) != 0 {
		t.Errorf("JoinShares of %d shares = %v, %v, want none: %v", len(shares), got, ok, shares)
	}
}

// checkRefreshed reports an error if the shares with these seeds do not become the wanted ones.
func checkRefreshed(t *testing.T, shares [][]byte, seeds []int, want [][]byte) {
	t.Helper()
	if got, ok := impl.RefreshShares(shares, seeds); !ok || !sameList(got, want) {
		t.Errorf("RefreshShares(%v, %v) = %v, %v, want %v", shares, seeds, got, ok, want)
	}
}

// rejectRefreshed reports an error if the shares are refreshed with these seeds, or what comes back is no copy of them.
func rejectRefreshed(t *testing.T, shares [][]byte, seeds []int) {
	t.Helper()
	if got, ok := impl.RefreshShares(shares, seeds); ok || !sameList(got, shares) {
		t.Errorf("RefreshShares of %d shares with %d seeds = %v, %v, want a copy of %v", len(shares), len(seeds), got, ok, shares)
	}
}

func TestSharingLimits(t *testing.T) {
	if impl.MinServers != 2 || impl.MaxServers != 4 || impl.FieldSize != 1019 {
		t.Errorf("MinServers is %d, MaxServers is %d, FieldSize is %d", impl.MinServers, impl.MaxServers, impl.FieldSize)
	}
}

func TestShareBytes(t *testing.T) {
	cases := []struct {
		secret []byte
		seeds  []int
		want   [][]byte
	}{
		{[]byte("hi"), []int{5, 6}, [][]byte{{63, 80}, {217, 237}, {142, 212}}},
		{[]byte("hello"), []int{9}, [][]byte{{174, 203, 39, 194, 155}, {198, 174, 75, 174, 244}}},
		{[]byte("hello"), []int{1, 2, 3}, [][]byte{{229, 233, 44, 174, 111}, {122, 129, 199, 76, 15}, {143, 154, 227, 107, 50},
			{120, 151, 100, 229, 61}}},
		{[]byte{0, 0, 0}, []int{7, 8}, [][]byte{{244, 11, 96}, {144, 170, 3}, {100, 161, 99}}},
		// seeds that are negative or beyond the range of a seed
		{[]byte("a"), []int{math.MinInt, math.MaxInt}, [][]byte{{48}, {229}, {180}}},
		{[]byte("abc"), []int{-1, 0, impl.Modulus}, [][]byte{{64, 62, 123}, {210, 211, 19}, {210, 211, 19}, {33, 92, 24}}},
		// two equal streams cancel each other
		{[]byte("hello"), []int{9, 9}, [][]byte{{174, 203, 39, 194, 155}, {174, 203, 39, 194, 155}, []byte("hello")}},
		// an empty secret has as many shares as any other, and they are empty
		{nil, []int{9}, [][]byte{{}, {}}},
		{[]byte{}, []int{9, 10, 11}, [][]byte{{}, {}, {}, {}}},
		// too few shares, and too many
		{[]byte("hi"), nil, nil},
		{[]byte("hi"), []int{}, nil},
		{[]byte("hi"), []int{1, 2, 3, 4}, nil},
		{nil, nil, nil},
		{nil, []int{1, 2, 3, 4}, nil},
	}
	for _, c := range cases {
		if got := impl.ShareBytes(c.secret, c.seeds); !sameList(got, c.want) {
			t.Errorf("ShareBytes(%v, %v) = %v, want %v", c.secret, c.seeds, got, c.want)
		}
	}
}

// All shares together yield the secret, in any order.
func TestShareBytesYieldTheSecret(t *testing.T) {
	for _, secret := range someSecrets() {
		for _, seeds := range someSeedLists {
			shares := impl.ShareBytes(secret, seeds)
			if !sameList(shares, referenceShares(secret, seeds)) {
				t.Fatalf("ShareBytes(%v, %v) = %v, want %v", secret, seeds, shares, referenceShares(secret, seeds))
			}
			if got := impl.XorAll(shares); len(shares) != len(seeds)+1 || !bytes.Equal(got, secret) {
				t.Errorf("the %d shares of %v for the seeds %v yield %v", len(shares), secret, seeds, got)
			}
			checkJoined(t, shares, secret)
			slices.Reverse(shares)
			checkJoined(t, shares, secret)
		}
	}
}

func TestShareBytesRejects(t *testing.T) {
	for _, secret := range append(someSecrets(), longSecrets()...) {
		for _, seeds := range badSeedLists() {
			if got := impl.ShareBytes(secret, seeds); len(got) != 0 {
				t.Errorf("ShareBytes of %d bytes with %d seeds has %d shares", len(secret), len(seeds), len(got))
			}
		}
	}
	for _, secret := range longSecrets() {
		for _, seeds := range someSeedLists {
			if got := impl.ShareBytes(secret, seeds); len(got) != 0 {
				t.Errorf("ShareBytes of %d bytes with %d seeds has %d shares", len(secret), len(seeds), len(got))
			}
		}
	}
}

// What a seed gives tells nothing of the secret but its length.
func TestSharesFromSeedsIgnoreTheSecret(t *testing.T) {
	for _, secret := range someSecrets() {
		for _, seeds := range someSeedLists {
			shares, others := impl.ShareBytes(secret, seeds), impl.ShareBytes(make([]byte, len(secret)), seeds)
			last := len(seeds)
			if !sameList(shares[:last], others[:last]) {
				t.Errorf("the shares of %v for the seeds %v depend on the secret", secret, seeds)
			}
			if want := referenceXor(others[last], secret); !bytes.Equal(shares[last], want) {
				t.Errorf("the last share of %v for the seeds %v is %v, want %v", secret, seeds, shares[last], want)
			}
		}
	}
}

// Any single share may be any byte, whatever the secret is, and the last one too.
func TestSingleShareTakesEveryValue(t *testing.T) {
	for _, secret := range [][]byte{{0}, {1}, {'h'}, {255}} {
		for servers := 2; servers <= 4; servers++ {
			seen := make([]map[byte]bool, servers)
			for i := range seen {
				seen[i] = map[byte]bool{}
			}
			for first := range 5000 {
				for i, share := range impl.ShareBytes(secret, []int{first, first + 100000, first + 200000}[:servers-1]) {
					seen[i][share[0]] = true
				}
			}
			for i := range seen {
				if len(seen[i]) != 256 {
					t.Errorf("share %d of %d of %v takes only %d values", i, servers, secret, len(seen[i]))
				}
			}
		}
	}
}

// Without one share, whichever it is, the others fit any other secret of the same length.
func TestAllSharesButOneRevealNothing(t *testing.T) {
	for _, secret := range someSecrets() {
		length := len(secret)
		for _, seeds := range someSeedLists {
			shares := impl.ShareBytes(secret, seeds)
			for left, share := range shares {
				others := without(shares, left)
				if got := impl.MissingShare(others, secret); !bytes.Equal(got, share) {
					t.Errorf("MissingShare(%v, %v) = %v, want %v", others, secret, got, share)
				}
				for _, other := range [][]byte{make([]byte, length), bytes.Repeat([]byte{255}, length), mixed(length, 99)} {
					made := impl.MissingShare(others, other)
					checkJoined(t, slices.Insert(slices.Clone(others), left, made), other)
					if bytes.Equal(made, share) != bytes.Equal(other, secret) {
						t.Errorf("the missing share of %v is %v for %v and %v for %v", others, share, secret, made, other)
					}
				}
			}
		}
	}
}

func TestJoinShares(t *testing.T) {
	cases := []struct {
		shares [][]byte
		want   []byte
	}{
		{[][]byte{{1, 2}, {3, 4}}, []byte{2, 6}},
		{[][]byte{{1}, {2}, {4}}, []byte{7}},
		{[][]byte{{1}, {2}, {4}, {8}}, []byte{15}},
		{[][]byte{{5}, {5}}, []byte{0}},
		{[][]byte{{5}, {5}, {5}}, []byte{5}},
		{[][]byte{{0, 0}, {0, 0}}, []byte{0, 0}},
		// shares without bytes have one length, nil ones too
		{[][]byte{nil, nil}, nil},
		{[][]byte{{}, {}}, nil},
		{[][]byte{nil, {}}, nil},
		{[][]byte{{}, nil, nil, {}}, nil},
	}
	for _, c := range cases {
		checkJoined(t, c.shares, c.want)
	}
}

// Shares may have any length when they are joined.
func TestJoinSharesOfEveryLength(t *testing.T) {
	for _, length := range []int{0, 1, 2, 24, 399, 400, 401, 402, 656, 800, 5000} {
		for count := 2; count <= 4; count++ {
			var shares [][]byte
			for i := range count {
				shares = append(shares, mixed(length, 11*i))
			}
			checkJoined(t, shares, referenceXor(shares...))
		}
	}
}

func TestJoinSharesCount(t *testing.T) {
	for _, count := range []int{0, 1, 5, 6, 7, 255, 256, 257, 258, 1000} {
		for _, share := range [][]byte{nil, {}, {7}, mixed(24, 1), mixed(401, 2)} {
			rejectJoined(t, slices.Repeat([][]byte{share}, count))
		}
	}
	for _, count := range []int{1 << 16, 1<<16 + 2, 1<<16 + 4} {
		rejectJoined(t, make([][]byte, count))
	}
	rejectJoined(t, nil)
	rejectJoined(t, [][]byte{{1, 2, 3}})
	rejectJoined(t, impl.ShareBytes([]byte("hi"), []int{5, 6})[:1])
	rejectJoined(t, append(impl.ShareBytes([]byte("hi"), []int{5, 6, 7}), []byte{0, 0}))
}

// unequalShares lists shares of which one, at any place, is shorter or longer than the others.
func unequalShares() [][][]byte {
	lists := [][][]byte{{{1, 2}, {3}}, {{3}, {1, 2}}, {{1, 2}, nil}, {nil, {1}}, {{}, {0}}, {{0}, {}},
		{{1}, {1, 2}, {1, 2, 3}}, {{1, 2, 3}, {1, 2}, {1}}, {{1}, {1, 2}, {1}, {1, 2}}, {{1, 2}, {3}, {4, 5}, {6}}}
	for count := 2; count <= 4; count++ {
		for place := range count {
			for _, lengths := range [][2]int{{1, 0}, {0, 1}, {2, 1}, {2, 3}, {400, 399}, {400, 401}, {401, 400}, {256, 0}, {0, 256}, {5, 261}} {
				shares := slices.Repeat([][]byte{mixed(lengths[0], 7)}, count)
				shares[place] = mixed(lengths[1], 8)
				lists = append(lists, shares)
			}
		}
	}
	return lists
}

func TestJoinSharesOfDifferentLengths(t *testing.T) {
	for _, shares := range unequalShares() {
		rejectJoined(t, shares)
		// not even where the bytes that others do not have are all 0
		var zeros [][]byte
		for _, share := range shares {
			zeros = append(zeros, make([]byte, len(share)))
		}
		rejectJoined(t, zeros)
	}
}

func TestRefreshShares(t *testing.T) {
	shares := [][]byte{{63, 80}, {217, 237}, {142, 212}}
	checkRefreshed(t, shares, []int{7, 8}, [][]byte{{203, 91}, {73, 71}, {234, 117}})
	// the shares of zero bytes themselves
	checkRefreshed(t, [][]byte{{0, 0}, {0, 0}, {0, 0}}, []int{7, 8}, [][]byte{{244, 11}, {144, 170}, {100, 161}})
	// with equal seeds the last share stays as it is
	checkRefreshed(t, shares, []int{7, 7}, [][]byte{{203, 91}, {45, 230}, {142, 212}})
	checkRefreshed(t, [][]byte{nil, {}}, []int{7}, [][]byte{{}, {}})
	checkRefreshed(t, [][]byte{{}, {}, nil, nil}, []int{7, 8, 9}, [][]byte{{}, {}, {}, {}})
}

// Refreshed shares yield the same secret, and so do those that are refreshed again.
func TestRefreshSharesKeepsTheSecret(t *testing.T) {
	for _, secret := range someSecrets() {
		for _, seeds := range someSeedLists {
			shares := impl.ShareBytes(secret, []int{71, 72, 73}[:len(seeds)])
			for range 3 {
				var want [][]byte
				for i, zeroShare := range referenceShares(make([]byte, len(secret)), seeds) {
					want = append(want, referenceXor(shares[i], zeroShare))
				}
				checkRefreshed(t, shares, seeds, want)
				shares, _ = impl.RefreshShares(shares, seeds)
				checkJoined(t, shares, secret)
			}
		}
	}
}

// Whoever refreshes twice with the same seeds has the first shares again.
func TestRefreshSharesTwice(t *testing.T) {
	for _, seeds := range someSeedLists {
		for _, secret := range someSecrets() {
			shares := impl.ShareBytes(secret, []int{1, 2, 3}[:len(seeds)])
			once, _ := impl.RefreshShares(shares, seeds)
			checkRefreshed(t, once, seeds, shares)
		}
	}
}

// Every share changes, so an old share and the new others do not yield the secret.
func TestRefreshSharesChangesEveryShare(t *testing.T) {
	secret := mixed(24, 3)
	for _, seeds := range [][]int{{21}, {21, 22}, {21, 22, 23}} {
		shares := impl.ShareBytes(secret, []int{1, 2, 3}[:len(seeds)])
		refreshed, _ := impl.RefreshShares(shares, seeds)
		for i, share := range shares {
			old := slices.Clone(refreshed)
			old[i] = share
			if got, ok := impl.JoinShares(old); !ok || bytes.Equal(got, secret) || bytes.Equal(share, refreshed[i]) {
				t.Errorf("share %d stays %v when it is refreshed with %v", i, share, seeds)
			}
		}
	}
}

// Shares need not come from ShareBytes: any bytes of one length are shares of something.
func TestRefreshSharesOfAnyBytes(t *testing.T) {
	for _, length := range []int{0, 1, 24, 399, 400} {
		for _, seeds := range [][]int{{5}, {5, 6}, {5, 6, 7}} {
			var shares [][]byte
			for i := range len(seeds) + 1 {
				shares = append(shares, mixed(length, 50*i))
			}
			refreshed, ok := impl.RefreshShares(shares, seeds)
			if !ok {
				t.Errorf("RefreshShares refuses %d shares of %d bytes", len(shares), length)
			}
			checkJoined(t, refreshed, referenceXor(shares...))
		}
	}
}

func TestRefreshSharesRejects(t *testing.T) {
	// too few shares and too many, with the right number of seeds and with others
	for _, count := range []int{0, 1, 5, 6, 7, 257, 1000} {
		shares := slices.Repeat([][]byte{mixed(24, 1)}, count)
		for _, seeds := range append(badSeedLists(), someSeedLists...) {
			rejectRefreshed(t, shares, seeds)
		}
		rejectRefreshed(t, shares, make([]int, max(count-1, 0)))
		rejectRefreshed(t, shares, make([]int, count))
		rejectRefreshed(t, shares, make([]int, count+1))
	}
	// too few seeds and too many
	for count := 2; count <= 4; count++ {
		for _, share := range [][]byte{nil, {}, {7}, mixed(24, 1), mixed(400, 2)} {
			shares := slices.Repeat([][]byte{share}, count)
			for _, length := range []int{0, 1, 2, 3, 4, 5, 6, 255, 256, 257, 258, 259, 1000} {
				if length != count-1 {
					rejectRefreshed(t, shares, make([]int, length))
				}
			}
			rejectRefreshed(t, shares, nil)
		}
	}
	for _, shares := range unequalShares() {
		rejectRefreshed(t, shares, []int{1, 2, 3}[:len(shares)-1])
	}
}

// Shares that are too long to be refreshed are joined all the same.
func TestRefreshSharesOfLongShares(t *testing.T) {
	for _, secret := range longSecrets() {
		for _, seeds := range someSeedLists {
			shares := [][]byte{secret}
			for i := range seeds {
				shares = append(shares, mixed(len(secret), i))
			}
			rejectRefreshed(t, shares, seeds)
			checkJoined(t, shares, referenceXor(shares...))
		}
	}
}

func TestMissingShare(t *testing.T) {
	cases := []struct {
		others [][]byte
		secret []byte
		want   []byte
	}{
		{[][]byte{{1}, {2}}, []byte{7}, []byte{4}},
		{[][]byte{{63, 80}, {217, 237}}, []byte("no"), []byte{136, 210}},
		{[][]byte{{63, 80}, {217, 237}}, []byte("hi"), []byte{142, 212}},
		// there need be no others, nor a secret
		{nil, []byte{7, 8}, []byte{7, 8}},
		{[][]byte{}, []byte{0}, []byte{0}},
		{nil, nil, nil},
		{[][]byte{}, []byte{}, nil},
		{[][]byte{nil}, nil, nil},
		{[][]byte{{}, nil}, []byte{}, nil},
		{[][]byte{{1}, {2, 3}}, nil, []byte{3, 3}},
		// the share is as long as the longest of all, and missing bytes count as 0
		{[][]byte{{1}}, []byte{7, 8, 9}, []byte{6, 8, 9}},
		{[][]byte{{1, 2, 3}}, []byte{7}, []byte{6, 2, 3}},
		{[][]byte{{1}, {1, 2, 3}, {}}, []byte{7, 8}, []byte{7, 10, 3}},
		{[][]byte{nil, {1}}, []byte{1, 0}, []byte{0, 0}},
		{[][]byte{{1, 2}, {1, 2}}, nil, []byte{0, 0}},
		// there may be more others than servers
		{[][]byte{{1}, {2}, {4}, {8}, {16}, {32}}, []byte{64}, []byte{127}},
	}
	for _, c := range cases {
		if got := impl.MissingShare(c.others, c.secret); !bytes.Equal(got, c.want) {
			t.Errorf("MissingShare(%v, %v) = %v, want %v", c.others, c.secret, got, c.want)
		}
	}
}

// Whatever the others and the secret are, the missing share is their exclusive or.
func TestMissingShareAgainstReference(t *testing.T) {
	for _, others := range someStringLists() {
		for _, secret := range someStrings() {
			want := referenceXor(append(slices.Clone(others), secret)...)
			got := impl.MissingShare(others, secret)
			if !bytes.Equal(got, want) {
				t.Errorf("MissingShare of %d others and %v = %v, want %v", len(others), secret, got, want)
			}
			joined := impl.XorAll(append(slices.Clone(others), got))
			if !bytes.Equal(joined, extended(secret, len(want))) {
				t.Errorf("%d others and their missing share for %v yield %v", len(others), secret, joined)
			}
		}
	}
}

func TestShareNumber(t *testing.T) {
	cases := []struct {
		secret int
		seeds  []int
		want   []int
	}{
		{5, []int{1000, 1020}, []int{1000, 1, 23}},
		{0, []int{0}, []int{0, 0}},
		{0, []int{1, 1, 1}, []int{1, 1, 1, 1016}},
		{1018, []int{1}, []int{1, 1017}},
		{1018, []int{1018}, []int{1018, 0}},
		{-1, []int{-1}, []int{1018, 0}},
		{1019, []int{1019}, []int{0, 0}},
		{1020, []int{0}, []int{0, 1}},
		{7, []int{-1020}, []int{1018, 8}},
		{2038, []int{1018, 1018, 1018}, []int{1018, 1018, 1018, 3}},
		{impl.MaxValue, []int{-impl.MaxValue}, []int{111, 797}},
		// where a difference from the secret itself would be beyond the range of an int
		{math.MinInt, []int{math.MaxInt}, []int{681, 675}},
		{math.MaxInt, []int{math.MinInt}, []int{337, 344}},
		{math.MinInt, []int{math.MinInt, math.MinInt}, []int{337, 337, 682}},
		{math.MinInt, []int{1018, 1018, 1018}, []int{1018, 1018, 1018, 340}},
		{math.MaxInt, []int{-1, -1}, []int{1018, 1018, 683}},
		{5, []int{math.MaxInt, math.MaxInt, math.MaxInt}, []int{681, 681, 681, 0}},
		// too few shares, and too many
		{5, nil, nil},
		{5, []int{}, nil},
		{0, nil, nil},
		{5, []int{1, 2, 3, 4}, nil},
		{0, []int{0, 0, 0, 0, 0}, nil},
	}
	for _, c := range cases {
		if got := impl.ShareNumber(c.secret, c.seeds); !slices.Equal(got, c.want) {
			t.Errorf("ShareNumber(%d, %v) = %v, want %v", c.secret, c.seeds, got, c.want)
		}
	}
}

// All shares of a number are field elements, and together they yield the number modulo FieldSize.
func TestShareNumberYieldsTheSecret(t *testing.T) {
	for _, secret := range someNumbers {
		lists := slices.Clone(someSeedLists)
		for _, seed := range someNumbers {
			lists = append(lists, []int{seed}, []int{seed, 5}, []int{-5, seed}, []int{seed, seed, seed})
		}
		for _, seeds := range lists {
			shares := impl.ShareNumber(secret, seeds)
			if want := referenceNumbers(secret, seeds); !slices.Equal(shares, want) {
				t.Errorf("ShareNumber(%d, %v) = %v, want %v", secret, seeds, shares, want)
			}
			if slices.Min(shares) < 0 || slices.Max(shares) >= 1019 {
				t.Errorf("ShareNumber(%d, %v) = %v goes beyond the field", secret, seeds, shares)
			}
			if got := impl.JoinNumber(shares); got != impl.Mod(secret, 1019) {
				t.Errorf("JoinNumber(%v) = %d, want the remainder of %d", shares, got, secret)
			}
			slices.Reverse(shares)
			if got := impl.JoinNumber(shares); got != impl.Mod(secret, 1019) {
				t.Errorf("JoinNumber(%v) = %d, want the remainder of %d", shares, got, secret)
			}
		}
		for _, seeds := range badSeedLists() {
			if got := impl.ShareNumber(secret, seeds); len(got) != 0 {
				t.Errorf("ShareNumber(%d) with %d seeds has %d shares", secret, len(seeds), len(got))
			}
		}
	}
}

// Over all seeds, each single share is every field element exactly once, whatever the number is, and so
// the shares of all servers but one are equally often those of any number.
func TestSingleShareOfANumberRevealsNothing(t *testing.T) {
	for _, secret := range someNumbers {
		for place, fixed := range [][]int{{}, {7}, {1018, 3}, {-5, math.MaxInt}} {
			seen := map[int]bool{}
			for seed := range 1019 {
				shares := impl.ShareNumber(secret, append(slices.Clone(fixed), seed))
				if shares[len(fixed)] != seed {
					t.Errorf("share %d of %d for the seed %d is %d", len(fixed), secret, seed, shares[len(fixed)])
				}
				seen[shares[len(shares)-1]] = true
			}
			if len(seen) != 1019 {
				t.Errorf("list %d: the last share of %d takes only %d values", place, secret, len(seen))
			}
		}
	}
}

// Without one share, whichever it is, there is exactly one field element for every number.
func TestAllNumbersButOneRevealNothing(t *testing.T) {
	for _, seeds := range [][]int{{5}, {5, 1018}, {5, 1018, 77}} {
		shares := impl.ShareNumber(500, seeds)
		for left, share := range shares {
			others := without(shares, left)
			seen := map[int]bool{}
			for other := range 1019 {
				joined := impl.JoinNumber(slices.Insert(slices.Clone(others), left, other))
				seen[joined] = true
				if (joined == 500) != (other == share) {
					t.Errorf("%v with %d at place %d yield %d", others, other, left, joined)
				}
			}
			if len(seen) != 1019 {
				t.Errorf("%v yield only %d numbers", others, len(seen))
			}
		}
	}
}

func TestJoinNumber(t *testing.T) {
	cases := []struct {
		shares []int
		want   int
	}{
		{nil, 0},
		{[]int{}, 0},
		{[]int{0}, 0},
		{[]int{5}, 5},
		{[]int{1000, 1, 23}, 5},
		{[]int{1018}, 1018},
		{[]int{1018, 1}, 0},
		{[]int{1019}, 0},
		{[]int{1020}, 1},
		{[]int{-1}, 1018},
		{[]int{-1018}, 1},
		{[]int{-1019}, 0},
		{[]int{-1020}, 1018},
		{[]int{5, -7}, 1017},
		{[]int{1, 2, 3, 4, 5, 6, 7}, 28},
		{slices.Repeat([]int{1018}, 1019), 0},
		{slices.Repeat([]int{1018}, 5000), 95},
		{slices.Repeat([]int{-1}, 2000), 38},
		{[]int{impl.MaxValue, impl.MaxValue}, 797},
		{[]int{math.MaxInt}, 681},
		{[]int{math.MinInt}, 337},
		{[]int{math.MaxInt, math.MinInt}, 1018},
		// sums beyond the range of an int wrap around before the remainder is taken
		{[]int{math.MaxInt, 1}, 337},
		{[]int{1, math.MaxInt}, 337},
		{[]int{math.MinInt, -1}, 681},
		{[]int{math.MaxInt, 1018}, 335},
		{[]int{math.MinInt, -1018}, 683},
		{[]int{math.MaxInt, math.MaxInt}, 1017},
		{[]int{math.MinInt, math.MinInt}, 0},
		{[]int{math.MaxInt, math.MaxInt, math.MaxInt}, 679},
		{[]int{math.MinInt, math.MinInt, math.MinInt}, 337},
		{slices.Repeat([]int{math.MaxInt}, 5), 677},
		// a sum that goes beyond the range and comes back is the true one
		{[]int{math.MaxInt, 1000, -1000}, 681},
		{[]int{math.MaxInt, math.MaxInt, math.MinInt, math.MinInt}, 1017},
	}
	for _, c := range cases {
		if got := impl.JoinNumber(c.shares); got != c.want {
			t.Errorf("JoinNumber(%v) = %d, want %d", c.shares, got, c.want)
		}
	}
}

func TestJoinNumberAgainstReference(t *testing.T) {
	lists := append(slices.Clone(someLists), someNumbers)
	for _, a := range someNumbers {
		lists = append(lists, []int{a}, slices.Repeat([]int{a}, 100))
		for _, b := range someNumbers {
			lists = append(lists, []int{a, b}, []int{a, b, -1, b})
		}
	}
	for _, shares := range lists {
		if got, want := impl.JoinNumber(shares), referenceSum(shares); got != want {
			t.Errorf("JoinNumber(%v) = %d, want %d", shares, got, want)
		}
	}
}

// Shares of two numbers that are added share by share are shares of their sum.
func TestNumbersAreAddedShareByShare(t *testing.T) {
	for _, a := range []int{0, 5, 509, 1018} {
		for _, b := range []int{0, 1, 510, 1017, 1018} {
			for _, seeds := range [][]int{{3}, {3, 900}, {3, 900, -1}} {
				first, second := impl.ShareNumber(a, seeds), impl.ShareNumber(b, seeds)
				for i := range first {
					first[i] += second[i]
				}
				if got := impl.JoinNumber(first); got != (a+b)%1019 {
					t.Errorf("the shares of %d and %d for the seeds %v add up to %d", a, b, seeds, got)
				}
			}
		}
	}
}

func TestShareBytesCopies(t *testing.T) {
	secrets := append(someSecrets(), mixed(401, 1))
	for _, content := range secrets {
		for _, list := range append(slices.Clone(someSeedLists), nil, []int{1, 2, 3, 4}) {
			secret, unchangedSecret := roomy(content)
			seeds, unchangedSeeds := roomy(list)
			got := impl.ShareBytes(secret, seeds)
			// neither the bytes behind the secret nor the integers behind the seeds are shared
			if !sameList(got, impl.ShareBytes(content, list)) {
				t.Errorf("ShareBytes(%v, %v) with spare capacity = %v", content, list, got)
			}
			checkFreshList(t, "ShareBytes", got, func() bool { return unchangedSecret() && unchangedSeeds() })
		}
	}
}

// shareLists lists shares of every kind: those that can be refreshed, those that can only be joined, and others.
func shareLists() [][][]byte {
	lists := [][][]byte{nil, {}, {nil}, {{7}}, {nil, nil}, {{}, nil, {}}, {{1, 2}, {3, 4}}, {{1, 2}, {3}}, {{3}, {1, 2}, nil},
		{{1}, {2}, {4}, {8}}, {{1}, {2}, {4}, {8}, {16}}, {mixed(400, 1), mixed(400, 2)}, {mixed(401, 1), mixed(401, 2)}}
	for _, seeds := range someSeedLists {
		lists = append(lists, impl.ShareBytes(mixed(24, 3), seeds))
	}
	return lists
}

func TestJoinSharesCopies(t *testing.T) {
	for _, content := range shareLists() {
		shares, unchanged := roomyList(content)
		got, ok := impl.JoinShares(shares)
		want, wantOk := impl.JoinShares(content)
		if ok != wantOk || !bytes.Equal(got, want) {
			t.Errorf("JoinShares(%v) with spare capacity = %v, %v", content, got, ok)
		}
		checkFresh(t, "JoinShares", got, unchanged)
	}
}

// What is refreshed and what comes back after a refusal is a copy: the places and the bytes of both.
func TestRefreshSharesCopies(t *testing.T) {
	for _, content := range shareLists() {
		for _, list := range [][]int{nil, {7}, {7, 8}, {7, 8, 9}, {7, 8, 9, 10}} {
			shares, unchangedShares := roomyList(content)
			seeds, unchangedSeeds := roomy(list)
			got, ok := impl.RefreshShares(shares, seeds)
			want, wantOk := impl.RefreshShares(content, list)
			if ok != wantOk || !sameList(got, want) {
				t.Errorf("RefreshShares(%v, %v) with spare capacity = %v, %v", content, list, got, ok)
			}
			checkFreshList(t, "RefreshShares", got, func() bool { return unchangedShares() && unchangedSeeds() })
		}
	}
}

func TestMissingShareCopies(t *testing.T) {
	for _, content := range someStringLists() {
		for _, text := range [][]byte{{}, {7}, {1, 2, 3}, mixed(450, 2)} {
			others, unchangedOthers := roomyList(content)
			secret, unchangedSecret := roomy(text)
			got := impl.MissingShare(others, secret)
			if !bytes.Equal(got, impl.MissingShare(content, text)) {
				t.Errorf("MissingShare of %d others and %v with spare capacity = %v", len(others), text, got)
			}
			checkFresh(t, "MissingShare", got, func() bool { return unchangedOthers() && unchangedSecret() })
		}
	}
}

func TestNumbersCopy(t *testing.T) {
	for _, list := range append(slices.Clone(someSeedLists), nil, []int{1, 2, 3, 4}, []int{0, 0, 0, 0, 0}) {
		seeds, unchanged := roomy(list)
		got := impl.ShareNumber(5, seeds)
		if !slices.Equal(got, impl.ShareNumber(5, list)) {
			t.Errorf("ShareNumber(5, %v) with spare capacity = %v", list, got)
		}
		checkFresh(t, "ShareNumber", got, unchanged)
		shares, unchanged := roomy(list)
		if got := impl.JoinNumber(shares); got != referenceSum(list) || !unchanged() {
			t.Errorf("JoinNumber(%v) with spare capacity = %d", list, got)
		}
	}
}

// The same memory may be several shares, or parts of it may be.
func TestSharesOfOneMemory(t *testing.T) {
	same, unchanged := roomy([]byte{1, 2, 3, 4})
	checkJoined(t, [][]byte{same, same}, []byte{0, 0, 0, 0})
	checkJoined(t, [][]byte{same, same, same}, []byte{1, 2, 3, 4})
	checkJoined(t, [][]byte{same[:2], same[1:3], same[2:]}, []byte{0, 5})
	if got := impl.MissingShare([][]byte{same, same}, same[:2]); !bytes.Equal(got, []byte{1, 2, 0, 0}) {
		t.Errorf("MissingShare of the same slice twice = %v", got)
	}
	lists := [][][]byte{{same, same}, {same, same, same}, {same[:2], same[1:3], same[2:]}, {same[:3], same[1:], same[:3], same[:3]},
		// refused: a single one, too many, and different lengths
		{same}, {same, same, same, same, same}, {same, same[:2]}, {same[:2], same[:2], same[:3]}}
	for _, shares := range lists {
		var apart [][]byte
		for _, share := range shares {
			apart = append(apart, bytes.Clone(share))
		}
		for _, seeds := range [][]int{{7}, {7, 8}, {7, 8, 9}} {
			got, ok := impl.RefreshShares(shares, seeds)
			want, wantOk := impl.RefreshShares(apart, seeds)
			if ok != wantOk || !sameList(got, want) {
				t.Errorf("RefreshShares of parts of one slice, %v, with %v = %v, %v", shares, seeds, got, ok)
			}
			checkFreshList(t, "RefreshShares of parts of one slice", got, unchanged)
		}
	}
	// the shares of equal seeds are equal, but two slices
	checkFreshList(t, "ShareBytes with equal seeds", impl.ShareBytes(same, []int{9, 9, 9}), unchanged)
}

// Shares that are written to are not what a later call returns.
func TestSharesAreFresh(t *testing.T) {
	joined := func(list [][]byte) []byte { return bytes.Join(list, []byte{','}) }
	lists := []func() [][]byte{
		func() [][]byte { return impl.ShareBytes([]byte("hi"), []int{5, 6}) },
		func() [][]byte { return impl.ShareBytes(nil, []int{5, 6}) },
		func() [][]byte { return impl.ShareBytes([]byte("hi"), nil) },
		func() [][]byte { return impl.ShareBytes(mixed(401, 1), []int{5}) },
		func() [][]byte { l, _ := impl.RefreshShares([][]byte{{1}, {2}}, []int{5}); return l },
		func() [][]byte { l, _ := impl.RefreshShares([][]byte{{1}, {2}}, []int{5, 6}); return l },
		func() [][]byte { l, _ := impl.RefreshShares([][]byte{{1}}, nil); return l },
		func() [][]byte { l, _ := impl.RefreshShares(nil, nil); return l },
	}
	for i, list := range lists {
		before := joined(list())
		checkFreshList(t, "a function of shares", list(), func() bool { return true })
		if got := joined(list()); !bytes.Equal(got, before) {
			t.Errorf("list %d of shares is %v after an earlier one was written to, want %v", i, got, before)
		}
	}
	checkAgain(t, "JoinShares", func() []byte { b, _ := impl.JoinShares([][]byte{{1}, {2}}); return b })
	checkAgain(t, "JoinShares", func() []byte { b, _ := impl.JoinShares([][]byte{{1}}); return b })
	checkAgain(t, "MissingShare", func() []byte { return impl.MissingShare(nil, []byte{1, 2}) })
	checkAgain(t, "MissingShare", func() []byte { return impl.MissingShare(nil, nil) })
	checkAgain(t, "ShareNumber", func() []int { return impl.ShareNumber(5, []int{6, 7}) })
	checkAgain(t, "ShareNumber", func() []int { return impl.ShareNumber(5, nil) })
}
