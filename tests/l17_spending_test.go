package tests

import (
	"math"
	"slices"
	"testing"

	"loop.example/g00516/impl"
)

// numbersFrom returns count numbers from first on, each greater by step than the one before it.
func numbersFrom(first int, count int, step int) []int {
	list := []int{}
	for i := range count {
		list = append(list, first+i*step)
	}
	return list
}

func spentList(epoch int, serials ...int) impl.SpentList {
	return impl.SpentList{Epoch: epoch, Serials: serials}
}

// someSerialLists lists serial numbers of valid lists, with all numbers of them from none to MaxSpent that
// matter, and with the least and the greatest serial number.
func someSerialLists() [][]int {
	return [][]int{nil, {}, {0}, {12}, {100000}, {0, 100000}, {5, 12, 99}, {11, 13}, {1, 7, 9}, {3, 7}, {0, 1, 2, 5, 99, 398, 50000, 99999},
		numbersFrom(0, 20, 1), numbersFrom(20, 20, 1), numbersFrom(1, 20, 2), numbersFrom(99981, 20, 1), numbersFrom(20, 21, 1),
		numbersFrom(0, 38, 1), numbersFrom(0, 39, 1), numbersFrom(1, 39, 2), numbersFrom(99962, 39, 1), numbersFrom(99961, 38, 1),
		numbersFrom(0, 40, 1), numbersFrom(0, 40, 2), numbersFrom(1, 40, 2), numbersFrom(13, 40, 1), numbersFrom(40, 40, 1),
		numbersFrom(22, 40, 1), numbersFrom(99961, 40, 1), append(numbersFrom(0, 39, 1), 100000)}
}

// notSerialLists lists serial numbers of lists that are not valid: too many, equal neighbours, descending
// ones, and integers that are no serial numbers.
func notSerialLists() [][]int {
	list := [][]int{numbersFrom(0, 41, 1), numbersFrom(0, 41, 2), numbersFrom(99960, 41, 1), numbersFrom(0, 42, 1), numbersFrom(0, 80, 1), numbersFrom(0, 1000, 1),
		{0, 0}, {12, 12}, {100000, 100000}, {5, 12, 12, 99}, {5, 5, 12, 99}, {5, 12, 99, 99}, {0, 0, 0}, slices.Repeat([]int{7}, 40), slices.Repeat([]int{12}, 41),
		{1, 0}, {12, 5}, {100000, 0}, {5, 99, 12}, {12, 5, 99}, {99, 12, 5}, {5, 12, 5}, {12, 11, 12}, {0, 2, 1, 3},
		slices.Concat(numbersFrom(0, 39, 1), []int{38}), slices.Concat(numbersFrom(1, 39, 1), []int{0}), slices.Concat([]int{12}, numbersFrom(0, 39, 1))}
	for _, serial := range notSerials {
		list = append(list, []int{serial}, []int{serial, 12}, []int{12, serial}, []int{5, serial, 12}, append(numbersFrom(0, 39, 1), serial))
	}
	return list
}

// someSpentLists lists valid lists.
func someSpentLists() []impl.SpentList {
	var list []impl.SpentList
	for i, serials := range someSerialLists() {
		list = append(list, spentList(2, serials...), spentList(someRounds[i%len(someRounds)], serials...))
	}
	return list
}

// notSpentLists lists lists that are not valid for one reason or for several.
func notSpentLists() []impl.SpentList {
	var list []impl.SpentList
	for i, serials := range notSerialLists() {
		list = append(list, spentList(2, serials...), spentList(notRounds[i%len(notRounds)], serials...))
	}
	for i, serials := range someSerialLists() {
		list = append(list, spentList(notRounds[i%len(notRounds)], serials...))
	}
	for _, epoch := range notRounds {
		list = append(list, spentList(epoch), spentList(epoch, 5, 12, 99))
	}
	return list
}

// sameSpent tells whether lists are equal; it does not use the package under test.
func sameSpent(a impl.SpentList, b impl.SpentList) bool {
	return a.Epoch == b.Epoch && slices.Equal(a.Serials, b.Serials)
}

// referenceListed tells whether a list is valid as chapter 17 states it.
func referenceListed(l impl.SpentList) bool {
	different := slices.Compact(slices.Sorted(slices.Values(l.Serials)))
	if len(different) > 0 && (different[0] < 0 || different[len(different)-1] > 100000) {
		return false
	}
	return slices.Equal(different, l.Serials) && len(different) <= 40 && l.Epoch >= 0 && l.Epoch <= 1000000000000
}

// referenceSpend is the list after a token as chapter 17 states it.
func referenceSpend(l impl.SpentList, secret int, x impl.Token) (impl.SpentList, int) {
	if !referenceListed(l) || !referenceValid(secret, x) {
		return l, 1
	}
	place, found := slices.BinarySearch(l.Serials, x.Serial)
	if found {
		return l, 2
	}
	if len(l.Serials) == 40 {
		return l, 3
	}
	return spentList(l.Epoch, slices.Insert(slices.Clone(l.Serials), place, x.Serial)...), 0
}

// referenceMerge is the merged list as chapter 17 states it.
func referenceMerge(a impl.SpentList, b impl.SpentList) (impl.SpentList, int) {
	if !referenceListed(a) || !referenceListed(b) || a.Epoch != b.Epoch {
		return a, 0
	}
	both := slices.Sorted(slices.Values(slices.Concat(a.Serials, b.Serials)))
	twice := len(both) - len(slices.Compact(slices.Clone(both)))
	fresh := slices.DeleteFunc(slices.Clone(b.Serials), func(serial int) bool { return slices.Contains(a.Serials, serial) })
	merged := slices.Concat(a.Serials, fresh)
	merged = merged[:min(len(merged), 40)]
	slices.Sort(merged)
	return spentList(a.Epoch, merged...), twice
}

// referenceSecret is the secret of an epoch as chapter 17 states it.
func referenceSecret(master int, epoch int) int {
	return 1 + referenceChild(referenceHash([]int{master, 103, epoch, master}), 0)%1018
}

// checkSpent reports an error if SpendToken returns something else than chapter 17 states, and returns its code.
func checkSpent(t *testing.T, l impl.SpentList, secret int, x impl.Token) int {
	t.Helper()
	got, code := impl.SpendToken(l, secret, x)
	want, wantCode := referenceSpend(l, secret, x)
	if !sameSpent(got, want) || code != wantCode {
		t.Fatalf("SpendToken(%v, %d, %v) = %v, %d, want %v, %d", l, secret, x, got, code, want, wantCode)
	}
	return code
}

// refuseSpent reports an error unless SpendToken returns an equal list with this code.
func refuseSpent(t *testing.T, l impl.SpentList, secret int, x impl.Token, code int) {
	t.Helper()
	if got, gotCode := impl.SpendToken(l, secret, x); !sameSpent(got, l) || gotCode != code {
		t.Fatalf("SpendToken(%v, %d, %v) = %v, %d, want the same list and %d", l, secret, x, got, gotCode, code)
	}
}

// spend returns the list after a token, which must be accepted.
func spend(t *testing.T, l impl.SpentList, secret int, x impl.Token) impl.SpentList {
	t.Helper()
	next, code := impl.SpendToken(l, secret, x)
	if code != impl.SpentOK {
		t.Fatalf("SpendToken(%v, %d, %v) is refused with %d", l, secret, x, code)
	}
	return next
}

// checkMerged reports an error if MergeSpent returns something else than chapter 17 states.
func checkMerged(t *testing.T, a impl.SpentList, b impl.SpentList) {
	t.Helper()
	got, twice := impl.MergeSpent(a, b)
	want, wantTwice := referenceMerge(a, b)
	if !sameSpent(got, want) || twice != wantTwice {
		t.Fatalf("MergeSpent(%v, %v) = %v, %d, want %v, %d", a, b, got, twice, want, wantTwice)
	}
}

// refuseMerged reports an error unless MergeSpent returns a list that equals a, and 0.
func refuseMerged(t *testing.T, a impl.SpentList, b impl.SpentList) {
	t.Helper()
	if got, twice := impl.MergeSpent(a, b); !sameSpent(got, a) || twice != 0 {
		t.Fatalf("MergeSpent(%v, %v) = %v, %d, want the first list and 0", a, b, got, twice)
	}
}

func TestSpendingConstants(t *testing.T) {
	if impl.MaxSpent != 40 || impl.SpentOK != 0 || impl.SpentInvalid != 1 || impl.SpentTwice != 2 || impl.SpentFull != 3 {
		t.Error(impl.MaxSpent, impl.SpentOK, impl.SpentInvalid, impl.SpentTwice, impl.SpentFull)
	}
}

func TestNewSpentList(t *testing.T) {
	check := func(epoch int, want int) {
		t.Helper()
		got := impl.NewSpentList(epoch)
		if got.Epoch != want || len(got.Serials) != 0 || !impl.IsValidSpentList(got) {
			t.Errorf("NewSpentList(%d) = %v", epoch, got)
		}
	}
	for _, epoch := range someRounds {
		check(epoch, epoch)
	}
	for epoch := range 1000 {
		check(epoch, epoch)
		check(impl.MaxValue-epoch, impl.MaxValue-epoch)
		check(-1-epoch, 0)
		check(impl.MaxValue+1+epoch, 0)
	}
	for _, epoch := range notRounds {
		check(epoch, 0)
	}
}

func TestIsValidSpentList(t *testing.T) {
	for valid, lists := range map[bool][]impl.SpentList{true: someSpentLists(), false: notSpentLists()} {
		for _, l := range lists {
			own, unchanged := roomy(l.Serials)
			if got := impl.IsValidSpentList(spentList(l.Epoch, own...)); got != valid || !unchanged() {
				t.Errorf("IsValidSpentList(%v) = %v", l, got)
			}
		}
	}
	for count := range 100 {
		if got := impl.IsValidSpentList(spentList(2, numbersFrom(count, count, 3)...)); got != (count <= 40) {
			t.Errorf("IsValidSpentList of %d serial numbers is %v", count, got)
		}
	}
	for _, epoch := range someRounds {
		if !impl.IsValidSpentList(spentList(epoch)) || !impl.IsValidSpentList(spentList(epoch, 0, 100000)) {
			t.Errorf("a list of epoch %d is not valid", epoch)
		}
	}
	if !impl.IsValidSpentList(impl.SpentList{}) {
		t.Error("the zero list is not valid")
	}
}

// Every number at every place of a short list, and of a full one.
func TestIsValidSpentListAgainstReference(t *testing.T) {
	for a := -1; a <= 5; a++ {
		for b := -1; b <= 5; b++ {
			for c := -1; c <= 5; c++ {
				for _, l := range []impl.SpentList{spentList(0, a, b, c), spentList(0, 99996+a, 99996+b, 99996+c)} {
					if got := impl.IsValidSpentList(l); got != referenceListed(l) {
						t.Errorf("IsValidSpentList(%v) = %v", l, got)
					}
				}
			}
		}
	}
	for place := range 40 {
		for serial := -1; serial <= 101; serial++ {
			full := spentList(2, numbersFrom(10, 40, 2)...)
			full.Serials[place] = serial
			if got := impl.IsValidSpentList(full); got != referenceListed(full) {
				t.Errorf("IsValidSpentList(%v) = %v", full, got)
			}
		}
	}
}

func TestSpendToken(t *testing.T) {
	cases := []struct {
		l      impl.SpentList
		secret int
		x      impl.Token
		want   []int
	}{
		{spentList(2), 55, tokenOf(12, 620), []int{12}},
		{impl.SpentList{}, 55, tokenOf(12, 620), []int{12}},
		{spentList(2, 5), 55, tokenOf(12, 620), []int{5, 12}},
		{spentList(2, 99), 55, tokenOf(12, 620), []int{12, 99}},
		{spentList(2, 5, 99), 55, tokenOf(12, 620), []int{5, 12, 99}},
		{spentList(2, 11, 13), 55, tokenOf(12, 620), []int{11, 12, 13}},
		{spentList(2, 12), 55, tokenOf(0, 1730), []int{0, 12}},
		{spentList(2, 12), 55, tokenOf(100000, 1407), []int{12, 100000}},
		{spentList(2, 12), 55, tokenOf(99, 958), []int{12, 99}},
		// another serial number with the same element
		{spentList(2, 12), 55, tokenOf(398, 620), []int{12, 398}},
		// the remainder of the secret counts
		{spentList(0), 55 - 1019, tokenOf(12, 620), []int{12}},
		{spentList(impl.MaxValue), 55 + 2*1019, tokenOf(12, 620), []int{12}},
		// the secret of epoch 2, which is not compared with the epoch of the list
		{spentList(2), 837, tokenOf(12, 1070), []int{12}},
		{spentList(3), 837, tokenOf(12, 1070), []int{12}},
	}
	for _, c := range cases {
		got, code := impl.SpendToken(c.l, c.secret, c.x)
		if code != impl.SpentOK || got.Epoch != c.l.Epoch || !slices.Equal(got.Serials, c.want) || !impl.IsValidSpentList(got) {
			t.Errorf("SpendToken(%v, %d, %v) = %v, %d, want %v", c.l, c.secret, c.x, got, code, c.want)
		}
		checkSpent(t, c.l, c.secret, c.x)
		refuseSpent(t, got, c.secret, c.x, impl.SpentTwice)
	}
}

func TestSpendTokenAgainstReference(t *testing.T) {
	var codes [4]int
	lists := append(someSpentLists(), notSpentLists()...)
	for i, l := range lists {
		for j, serial := range someSerials {
			secret := someExponents[(i+j)%len(someExponents)]
			codes[checkSpent(t, l, 837, validToken(837, serial))]++
			codes[checkSpent(t, l, secret, validToken(secret, serial))]++
			codes[checkSpent(t, l, 837, tokenOf(serial, 1070))]++
			codes[checkSpent(t, l, 55, validToken(837, serial))]++
		}
	}
	for _, secret := range someExponents {
		for _, serial := range someSerials {
			codes[checkSpent(t, spentList(2, 5, 12, 99), secret, validToken(secret, serial))]++
		}
	}
	for code, count := range codes {
		if count < 50 {
			t.Errorf("the code %d occurs %d times", code, count)
		}
	}
}

// Every number from below the first to beyond the last one, at its place in a list with gaps.
func TestSpendTokenAtEveryPlace(t *testing.T) {
	for _, count := range []int{0, 1, 2, 20, 38, 39, 40} {
		l := spentList(2, numbersFrom(10, count, 2)...)
		for serial := range 10 + 2*count + 3 {
			checkSpent(t, l, 837, validToken(837, serial))
		}
		checkSpent(t, l, 837, validToken(837, 100000))
	}
}

// Tokens are spent in an order that is neither ascending nor descending until the list is full.
func TestSpendTokenUntilFull(t *testing.T) {
	for _, step := range []int{1, 7, 13, 29, 39} {
		l := impl.NewSpentList(2)
		secret := impl.EpochSecret(9, 2)
		for i := range 40 {
			x := validToken(secret, 1000+i*step%40)
			if impl.IsSpent(l, x.Serial) || impl.BudgetLeft(l, numbersFrom(1000, 40, 1)) != 40-i {
				t.Fatalf("%v before the token %v", l, x)
			}
			l = spend(t, l, secret, x)
			refuseSpent(t, l, secret, x, impl.SpentTwice)
			if len(l.Serials) != i+1 || !impl.IsSpent(l, x.Serial) || !impl.IsValidSpentList(l) {
				t.Fatalf("%v after the token %v", l, x)
			}
		}
		if !sameSpent(l, spentList(2, numbersFrom(1000, 40, 1)...)) {
			t.Fatalf("the full list is %v", l)
		}
		for serial := 990; serial < 1050; serial++ {
			code := impl.SpentFull
			if impl.IsSpent(l, serial) {
				code = impl.SpentTwice
			}
			refuseSpent(t, l, secret, validToken(secret, serial), code)
			refuseSpent(t, l, secret, validToken(impl.EpochSecret(9, 3), serial), impl.SpentInvalid)
		}
	}
}

// Each reason for a refusal alone and several together.
func TestSpendTokenRefuses(t *testing.T) {
	good := tokenOf(12, 620)
	full := spentList(2, numbersFrom(12, 40, 1)...)
	other := spentList(2, numbersFrom(13, 40, 1)...)
	cases := []struct {
		l      impl.SpentList
		secret int
		x      impl.Token
		code   int
	}{
		// the serial number is contained, the list is full, or both
		{spentList(2, 12), 55, good, impl.SpentTwice}, {spentList(2, 5, 12), 55, good, impl.SpentTwice}, {spentList(2, 12, 99), 55, good, impl.SpentTwice},
		{other, 55, good, impl.SpentFull}, {full, 55, good, impl.SpentTwice},
		{spentList(2, numbersFrom(0, 40, 1)...), 55, good, impl.SpentTwice}, {spentList(2, append(numbersFrom(0, 1, 1), numbersFrom(13, 39, 1)...)...), 55, good, impl.SpentFull},
		// another secret, another value, another number
		{spentList(2), 56, good, impl.SpentInvalid}, {spentList(2), 0, good, impl.SpentInvalid}, {spentList(2), 1019, tokenOf(12, 1), impl.SpentInvalid},
		{spentList(2), 55, tokenOf(12, 621), impl.SpentInvalid}, {spentList(2), 55, tokenOf(12, 620+2039), impl.SpentInvalid}, {spentList(2), 55, tokenOf(13, 620), impl.SpentInvalid},
		{spentList(2), 55, impl.Token{}, impl.SpentInvalid}, {impl.SpentList{}, 0, impl.Token{}, impl.SpentInvalid},
		// the same with a token that is not valid
		{spentList(2, 12), 56, good, impl.SpentInvalid}, {other, 56, good, impl.SpentInvalid}, {full, 56, good, impl.SpentInvalid},
		{full, 55, tokenOf(12, 621), impl.SpentInvalid}, {other, 55, tokenOf(12, 621), impl.SpentInvalid}, {full, 55, tokenOf(-1, 620), impl.SpentInvalid},
		// a list that is not valid, with a token that it contains or not, and one that is not valid
		{spentList(-1), 55, good, impl.SpentInvalid}, {spentList(-1, 12), 55, good, impl.SpentInvalid}, {spentList(impl.MaxValue+1, 12), 55, good, impl.SpentInvalid},
		{spentList(2, 12, 12), 55, good, impl.SpentInvalid}, {spentList(2, 99, 12), 55, good, impl.SpentInvalid}, {spentList(2, 99, 5), 55, good, impl.SpentInvalid},
		{spentList(2, numbersFrom(12, 41, 1)...), 55, good, impl.SpentInvalid}, {spentList(2, numbersFrom(13, 41, 1)...), 55, good, impl.SpentInvalid},
		{spentList(-1, 12, 12), 56, tokenOf(-1, 0), impl.SpentInvalid}, {spentList(-1, numbersFrom(13, 40, 1)...), 55, good, impl.SpentInvalid},
	}
	for _, c := range cases {
		refuseSpent(t, c.l, c.secret, c.x, c.code)
		checkSpent(t, c.l, c.secret, c.x)
	}
	for _, l := range someSpentLists() {
		for _, serial := range notSerials {
			refuseSpent(t, l, 55, tokenOf(serial, 620), impl.SpentInvalid)
		}
		for _, secret := range notHiding {
			refuseSpent(t, l, secret, good, impl.SpentInvalid)
			refuseSpent(t, l, secret, tokenOf(12, 1), impl.SpentInvalid)
		}
	}
	for _, l := range notSpentLists() {
		refuseSpent(t, l, 55, good, impl.SpentInvalid)
		refuseSpent(t, l, 55, tokenOf(-1, 620), impl.SpentInvalid)
		refuseSpent(t, l, 0, tokenOf(12, 1), impl.SpentInvalid)
	}
}

func TestSpendTokenIsFresh(t *testing.T) {
	check := func(epoch int, serials []int, secret int, x impl.Token) {
		t.Helper()
		own, unchanged := roomy(serials)
		got, _ := impl.SpendToken(spentList(epoch, own...), secret, x)
		checkFresh(t, "SpendToken", got.Serials, unchanged)
		checkAgain(t, "SpendToken", func() []int {
			again, _ := impl.SpendToken(spentList(epoch, own...), secret, x)
			return again.Serials
		})
	}
	for _, serials := range someSerialLists() {
		for _, serial := range []int{12, 100000} {
			check(2, serials, 837, validToken(837, serial))
			check(2, serials, 55, validToken(837, serial))
			check(-1, serials, 837, validToken(837, serial))
		}
	}
	for _, serials := range notSerialLists() {
		check(2, serials, 837, validToken(837, 12))
	}
}

func TestIsSpent(t *testing.T) {
	for _, l := range append(someSpentLists(), notSpentLists()...) {
		own, unchanged := roomy(l.Serials)
		for _, serial := range slices.Concat(someSerials, notSerials, l.Serials, numbersFrom(0, 60, 1), numbersFrom(99950, 60, 1)) {
			if got := impl.IsSpent(spentList(l.Epoch, own...), serial); got != slices.Contains(l.Serials, serial) {
				t.Fatalf("IsSpent(%v, %d) = %v", l, serial, got)
			}
		}
		if !unchanged() {
			t.Errorf("IsSpent changes %v", l)
		}
	}
	// the order counts as little as the number of serial numbers
	for _, serials := range [][]int{{99, 12, 5}, {12, 12}, {-1, 12}, append(numbersFrom(100, 60, 1), 12)} {
		if l := spentList(-1, serials...); !impl.IsSpent(l, 12) || impl.IsSpent(l, 13) || impl.IsSpent(l, -2) {
			t.Errorf("IsSpent of %v", l)
		}
	}
}

func TestEpochSecret(t *testing.T) {
	cases := [][3]int{
		{9, 2, 837}, {9, 3, 147}, {9, 0, 823}, {0, 0, 375}, {0, 2, 83}, {1, 2, 752}, {1234, 5, 725}, {9, 1000, 595}, {9, impl.MaxValue, 267},
		{impl.MaxValue, impl.MaxValue, 652},
		// the least and the greatest secret
		{9, 183, 1}, {9, 1654, 1018},
		// negative masters and epochs, and the ends of int
		{-1, 2, 89}, {9, -1, 706}, {-9, -2, 444}, {math.MinInt, math.MaxInt, 38}, {math.MaxInt, math.MinInt, 405}, {9, math.MinInt, 803}, {9, math.MaxInt, 723},
		// the remainder counts
		{9, impl.Modulus + 2, 837}, {9 + impl.Modulus, 2, 837},
	}
	for _, c := range cases {
		if got := impl.EpochSecret(c[0], c[1]); got != c[2] || got != referenceSecret(c[0], c[1]) {
			t.Errorf("EpochSecret(%d, %d) = %d, want %d", c[0], c[1], got, c[2])
		}
	}
	epochs := slices.Concat(someRounds, notRounds, numbersFrom(-20, 60, 1))
	for _, master := range append(numbersFrom(-20, 60, 1), someKeys...) {
		for _, epoch := range epochs {
			got := impl.EpochSecret(master, epoch)
			if got != referenceSecret(master, epoch) || got < 1 || got > 1018 {
				t.Fatalf("EpochSecret(%d, %d) = %d, want %d", master, epoch, got, referenceSecret(master, epoch))
			}
		}
	}
}

// A token of one epoch is accepted in this epoch only, except by chance.
func TestEpochSecretSeparatesEpochs(t *testing.T) {
	foreign := 0
	for epoch := range 60 {
		x := validToken(impl.EpochSecret(9, epoch), 12)
		for other := range 60 {
			_, code := impl.SpendToken(impl.NewSpentList(other), impl.EpochSecret(9, other), x)
			if other == epoch && code != impl.SpentOK {
				t.Errorf("the token of epoch %d is refused with %d", epoch, code)
			}
			if other != epoch && code == impl.SpentOK {
				foreign++
			}
		}
	}
	// of 1018 secrets
	if foreign > 20 {
		t.Errorf("%d of 3540 tokens are accepted in another epoch", foreign)
	}
}

func TestMergeSpent(t *testing.T) {
	cases := []struct {
		a, b, want []int
		twice      int
	}{
		{nil, nil, nil, 0}, {nil, []int{}, nil, 0}, {nil, []int{12}, []int{12}, 0}, {[]int{12}, nil, []int{12}, 0}, {[]int{12}, []int{12}, []int{12}, 1},
		{[]int{3, 7}, []int{1, 7, 9}, []int{1, 3, 7, 9}, 1}, {[]int{1, 7, 9}, []int{3, 7}, []int{1, 3, 7, 9}, 1},
		{[]int{0, 2, 4}, []int{1, 3, 5}, []int{0, 1, 2, 3, 4, 5}, 0}, {[]int{1, 2, 3}, []int{1, 2, 3}, []int{1, 2, 3}, 3},
		{[]int{100000}, []int{0}, []int{0, 100000}, 0}, {[]int{0, 100000}, []int{0, 100000}, []int{0, 100000}, 2},
		// together just MaxSpent, one more, and many more
		{numbersFrom(20, 20, 1), numbersFrom(0, 20, 1), numbersFrom(0, 40, 1), 0},
		{numbersFrom(0, 20, 1), numbersFrom(20, 21, 1), numbersFrom(0, 40, 1), 0},
		{numbersFrom(20, 21, 1), numbersFrom(0, 20, 1), append(numbersFrom(0, 19, 1), numbersFrom(20, 21, 1)...), 0},
		{numbersFrom(0, 39, 1), numbersFrom(100, 40, 1), append(numbersFrom(0, 39, 1), 100), 0},
		{numbersFrom(100, 39, 1), numbersFrom(0, 40, 1), append([]int{0}, numbersFrom(100, 39, 1)...), 0},
		{numbersFrom(0, 39, 1), []int{39}, numbersFrom(0, 40, 1), 0}, {numbersFrom(0, 39, 1), []int{39, 40}, numbersFrom(0, 40, 1), 0},
		// those of both need no place, before and behind the ones for which there is none
		{numbersFrom(0, 39, 1), []int{37, 38, 39, 40}, numbersFrom(0, 40, 1), 2},
		{numbersFrom(100, 39, 1), append(numbersFrom(0, 2, 1), numbersFrom(100, 38, 1)...), append([]int{0}, numbersFrom(100, 39, 1)...), 38},
		{numbersFrom(10, 40, 1), append(numbersFrom(0, 10, 1), 10, 49, 50), numbersFrom(10, 40, 1), 2},
		// a full list stays as it is
		{numbersFrom(0, 40, 1), nil, numbersFrom(0, 40, 1), 0}, {numbersFrom(0, 40, 1), []int{100000}, numbersFrom(0, 40, 1), 0},
		{numbersFrom(1, 40, 1), []int{0}, numbersFrom(1, 40, 1), 0}, {numbersFrom(0, 40, 1), numbersFrom(40, 40, 1), numbersFrom(0, 40, 1), 0},
		{numbersFrom(40, 40, 1), numbersFrom(0, 40, 1), numbersFrom(40, 40, 1), 0}, {numbersFrom(0, 40, 1), numbersFrom(0, 40, 1), numbersFrom(0, 40, 1), 40},
		{numbersFrom(0, 40, 1), numbersFrom(20, 40, 1), numbersFrom(0, 40, 1), 20}, {nil, numbersFrom(0, 40, 1), numbersFrom(0, 40, 1), 0},
		{numbersFrom(0, 40, 2), numbersFrom(1, 40, 2), numbersFrom(0, 40, 2), 0},
	}
	for _, c := range cases {
		for _, epoch := range someRounds {
			got, twice := impl.MergeSpent(spentList(epoch, c.a...), spentList(epoch, c.b...))
			if got.Epoch != epoch || !slices.Equal(got.Serials, c.want) || twice != c.twice || !impl.IsValidSpentList(got) {
				t.Fatalf("MergeSpent(%v, %v) = %v, %d in epoch %d, want %v, %d", c.a, c.b, got, twice, epoch, c.want, c.twice)
			}
		}
		checkMerged(t, spentList(0, c.a...), spentList(0, c.b...))
	}
}

func TestMergeSpentAgainstReference(t *testing.T) {
	lists := someSpentLists()
	for _, a := range lists {
		for _, b := range lists {
			checkMerged(t, a, b)
		}
		if got, twice := impl.MergeSpent(a, a); !sameSpent(got, a) || twice != len(a.Serials) {
			t.Errorf("%v merged with itself is %v, %d", a, got, twice)
		}
		if got, twice := impl.MergeSpent(impl.NewSpentList(a.Epoch), a); !sameSpent(got, a) || twice != 0 {
			t.Errorf("an empty list merged with %v is %v, %d", a, got, twice)
		}
		if got, twice := impl.MergeSpent(a, impl.NewSpentList(a.Epoch)); !sameSpent(got, a) || twice != 0 {
			t.Errorf("%v merged with an empty list is %v, %d", a, got, twice)
		}
	}
	// lists of all lengths whose numbers overlap more and more
	for countA := range 41 {
		for countB := range 41 {
			for _, first := range []int{0, 15, 30, 60} {
				checkMerged(t, spentList(7, numbersFrom(30, countA, 1)...), spentList(7, numbersFrom(first, countB, 1)...))
				checkMerged(t, spentList(7, numbersFrom(30, countA, 3)...), spentList(7, numbersFrom(first, countB, 2)...))
			}
		}
	}
}

func TestMergeSpentRefuses(t *testing.T) {
	lists := someSpentLists()
	for i, bad := range notSpentLists() {
		good := lists[i%len(lists)]
		refuseMerged(t, bad, good)
		refuseMerged(t, good, bad)
		refuseMerged(t, bad, bad)
		// in the same epoch, so that only one list is at fault
		refuseMerged(t, bad, spentList(bad.Epoch, 5, 12, 99))
		refuseMerged(t, spentList(bad.Epoch, 5, 12, 99), bad)
		refuseMerged(t, bad, spentList(bad.Epoch))
		refuseMerged(t, spentList(bad.Epoch), bad)
	}
	for _, epoch := range someRounds {
		for _, other := range slices.Concat(someRounds, notRounds) {
			if other == epoch {
				continue
			}
			refuseMerged(t, spentList(epoch, 3, 7), spentList(other, 1, 7, 9))
			refuseMerged(t, spentList(epoch, 3, 7), spentList(other, 3, 7))
			refuseMerged(t, spentList(other), spentList(epoch, 12))
		}
	}
}

func TestMergeSpentIsFresh(t *testing.T) {
	check := func(epoch int, a []int, b []int) {
		t.Helper()
		ownA, unchangedA := roomy(a)
		ownB, unchangedB := roomy(b)
		unchanged := func() bool { return unchangedA() && unchangedB() }
		got, _ := impl.MergeSpent(spentList(2, ownA...), spentList(epoch, ownB...))
		checkFresh(t, "MergeSpent", got.Serials, unchanged)
		checkAgain(t, "MergeSpent", func() []int {
			again, _ := impl.MergeSpent(spentList(2, ownA...), spentList(epoch, ownB...))
			return again.Serials
		})
	}
	for _, a := range someSerialLists() {
		for _, b := range someSerialLists() {
			check(2, a, b)
			check(3, a, b)
		}
	}
	for _, bad := range notSerialLists() {
		check(2, bad, []int{12})
		check(2, []int{12}, bad)
		check(2, bad, bad)
	}
}

func TestBudgetLeft(t *testing.T) {
	cases := []struct {
		spent, serials []int
		want           int
	}{
		{nil, nil, 0}, {nil, []int{}, 0}, {[]int{7}, nil, 0}, {nil, []int{7}, 1}, {nil, []int{7, 8, 8}, 2}, {[]int{7}, []int{7, 8, 8}, 1},
		{[]int{7}, []int{7, 7}, 0}, {[]int{7, 8}, []int{8, 7}, 0}, {[]int{7, 8}, []int{9, 5}, 2}, {nil, []int{7, 7, 7, 7}, 1},
		{[]int{0}, []int{0, 1}, 1}, {[]int{0, 100000}, []int{100000, 99999, 0, 100001}, 2}, {nil, []int{3, 1, 2, 1, 3}, 3},
		{numbersFrom(0, 40, 1), numbersFrom(0, 40, 1), 0}, {numbersFrom(0, 40, 1), numbersFrom(20, 40, 1), 20},
		{numbersFrom(0, 40, 1), numbersFrom(40, 200, 1), 200}, {nil, numbersFrom(0, 1000, 1), 1000}, {nil, slices.Repeat([]int{12}, 1000), 1},
		// integers that are no serial numbers are elements too
		{nil, []int{-1, -1, 100001, math.MinInt, math.MaxInt}, 4}, {[]int{12}, []int{12, -12, 12 + impl.Modulus}, 2},
		// lists that are not valid
		{[]int{99, 12, 5}, []int{5, 12, 13, 99}, 1}, {[]int{12, 12}, []int{12, 12, 13}, 1}, {[]int{-1}, []int{-1, -2}, 1}, {numbersFrom(0, 60, 1), numbersFrom(0, 61, 1), 1},
	}
	for _, c := range cases {
		for _, epoch := range []int{0, 2, impl.MaxValue, -1, impl.MaxValue + 1, math.MinInt, math.MaxInt} {
			if got := impl.BudgetLeft(spentList(epoch, c.spent...), c.serials); got != c.want {
				t.Errorf("BudgetLeft({%d %v}, %v) = %d, want %d", epoch, c.spent, c.serials, got, c.want)
			}
		}
	}
	lists := slices.Concat(someSerialLists(), notSerialLists(), [][]int{someSerials, notSerials})
	for _, spent := range lists {
		for _, serials := range lists {
			want := slices.DeleteFunc(slices.Clone(serials), func(serial int) bool { return slices.Contains(spent, serial) })
			slices.Sort(want)
			want = slices.Compact(want)
			own, unchanged := roomy(serials)
			ownSpent, unchangedSpent := roomy(spent)
			if got := impl.BudgetLeft(spentList(2, ownSpent...), own); got != len(want) || !unchanged() || !unchangedSpent() {
				t.Fatalf("BudgetLeft(%v, %v) = %d, want %d", spent, serials, got, len(want))
			}
		}
	}
}

// A budget is what can still be spent of it, one token after the other.
func TestBudgetLeftCountsDown(t *testing.T) {
	serials := []int{99, 12, 12, 5, 100000, 99}
	l := impl.NewSpentList(2)
	left := 4
	for _, serial := range serials {
		next, code := impl.SpendToken(l, 837, validToken(837, serial))
		if code == impl.SpentOK {
			left--
		}
		if got := impl.BudgetLeft(next, serials); got != left {
			t.Errorf("BudgetLeft(%v, %v) = %d, want %d", next, serials, got, left)
		}
		l = next
	}
	if left != 0 || !sameSpent(l, spentList(2, 5, 12, 99, 100000)) {
		t.Errorf("%d left of %v", left, l)
	}
}

func TestEqualSpentLists(t *testing.T) {
	lists := append(someSpentLists(), notSpentLists()...)
	for _, a := range lists {
		for _, b := range lists {
			if got := impl.EqualSpentLists(a, b); got != sameSpent(a, b) {
				t.Fatalf("EqualSpentLists(%v, %v) = %v", a, b, got)
			}
		}
		if !impl.EqualSpentLists(a, spentList(a.Epoch, slices.Clone(a.Serials)...)) {
			t.Errorf("%v does not equal its copy", a)
		}
		if impl.EqualSpentLists(a, spentList(a.Epoch^1, a.Serials...)) {
			t.Errorf("%v equals a list of another epoch", a)
		}
		if longer := append(slices.Clone(a.Serials), 7); impl.EqualSpentLists(a, spentList(a.Epoch, longer...)) || impl.EqualSpentLists(spentList(a.Epoch, longer...), a) {
			t.Errorf("%v equals a longer list", a)
		}
	}
	if empty := (impl.SpentList{Serials: []int{}}); !impl.EqualSpentLists(empty, impl.SpentList{}) || !impl.EqualSpentLists(impl.SpentList{}, empty) {
		t.Error("nil and empty lists are not equal")
	}
	// the order counts
	if impl.EqualSpentLists(spentList(2, 12, 5), spentList(2, 5, 12)) || !impl.EqualSpentLists(spentList(2, 12, 5), spentList(2, 12, 5)) {
		t.Error("lists with another order are equal, or those with the same are not")
	}
}
