package tests

import (
	"math"
	"math/big"
	"slices"
	"testing"

	"loop.example/g00516/impl"
)

// someSerials lists serial numbers: the ends of their range, 1654 and 707, whose elements are 4 and 4 to the
// power -1, 398, which has the same element as 12, and others.
var someSerials = []int{0, 1, 2, 5, 12, 99, 398, 707, 1654, 50000, 65536, 99999, 100000}

// notSerials lists integers that are no serial numbers, most of which have the same hash as one.
var notSerials = []int{-1, -2, -5, -12, -100000, -100001, 100001, 100002, 200000, 1 << 32, 1<<32 + 5, 1 << 62, impl.Modulus,
	impl.Modulus + 12, impl.Modulus + 100000, 12 - impl.Modulus, 5 * impl.Modulus, impl.MaxValue, -impl.MaxValue,
	math.MinInt, math.MinInt + 1, math.MaxInt, math.MaxInt - 1}

// notHiding lists the multiples of FieldSize among the exponents, the ends of int among them.
var notHiding = []int{0, 1019, -1019, 2038, -2038, 3057, 1019 * 1019, -1019 * 1019, 1019 * 1000000007, -1019 * 1000000007,
	math.MaxInt - 681, math.MinInt + 682}

// plainExponents lists exponents with which no product of a proof wraps around; none is 0 modulo FieldSize.
var plainExponents = []int{1, 2, 7, 55, 510, 1018, 1020, -1, -1018, -1020, impl.MaxValue, -impl.MaxValue}

// hidingExponents lists the exponents of someExponents that are not 0 modulo FieldSize.
func hidingExponents() []int {
	var list []int
	for _, n := range someExponents {
		if !isMultiple(n) {
			list = append(list, n)
		}
	}
	return list
}

// isMultiple tells whether n is 0 modulo FieldSize.
func isMultiple(n int) bool {
	return referenceField(big.NewInt(int64(n))) == 0
}

func request(element int) impl.BlindRequest {
	return impl.BlindRequest{Element: element}
}

func reply(element int, challenge int, response int) impl.BlindReply {
	return impl.BlindReply{Element: element, Challenge: challenge, Response: response}
}

func tokenOf(serial int, value int) impl.Token {
	return impl.Token{Serial: serial, Value: value}
}

// referenceSerial is the element of a serial number as chapters 15 and 16 state it.
func referenceSerial(serial int) int {
	return residue(4, 1+referenceChild(referenceHash([]int{101, 89, serial, 101}), 0)%1018)
}

// referenceRequest is a request as chapter 16 states it.
func referenceRequest(serial int, blinding int) (impl.BlindRequest, bool) {
	if serial < 0 || serial > 100000 || isMultiple(blinding) {
		return impl.BlindRequest{}, false
	}
	return request(referencePower(referenceSerial(serial), blinding)), true
}

// referenceReply is a reply as chapter 16 states it.
func referenceReply(secret int, r impl.BlindRequest, nonce int) (impl.BlindReply, bool) {
	if !inGroup(r.Element) || r.Element == 1 || isMultiple(secret) {
		return impl.BlindReply{}, false
	}
	challenge, response := referenceProof(4, r.Element, secret, nonce)
	return reply(referencePower(r.Element, secret), challenge, response), true
}

// referenceToken is a finished token as chapter 16 states it.
func referenceToken(serial int, blinding int, key int, a impl.BlindReply) (impl.Token, bool) {
	r, ok := referenceRequest(serial, blinding)
	proof := claim{4, r.Element, key, a.Element, a.Challenge, a.Response}
	if !ok || !proof.wanted() {
		return impl.Token{}, false
	}
	size := big.NewInt(1019)
	inverse := new(big.Int).ModInverse(big.NewInt(int64(referenceField(big.NewInt(int64(blinding))))), size)
	return tokenOf(serial, residue(a.Element, int(inverse.Int64()))), true
}

// referenceValid tells whether a token is valid as chapter 16 states it.
func referenceValid(secret int, x impl.Token) bool {
	if x.Serial < 0 || x.Serial > 100000 || isMultiple(secret) {
		return false
	}
	return x.Value == referencePower(referenceSerial(x.Serial), secret)
}

// validToken returns the token with this serial number of the issuer with this secret.
func validToken(secret int, serial int) impl.Token {
	return tokenOf(serial, referencePower(referenceSerial(serial), secret))
}

// asked returns the request of a client, which must be possible.
func asked(t *testing.T, serial int, blinding int) impl.BlindRequest {
	t.Helper()
	r, ok := impl.BlindToken(serial, blinding)
	if !ok {
		t.Fatalf("BlindToken(%d, %d) is refused", serial, blinding)
	}
	return r
}

// signed returns the reply of an issuer to a request, which must be possible.
func signed(t *testing.T, secret int, r impl.BlindRequest, nonce int) impl.BlindReply {
	t.Helper()
	a, ok := impl.SignBlinded(secret, r, nonce)
	if !ok {
		t.Fatalf("SignBlinded(%d, %v, %d) is refused", secret, r, nonce)
	}
	return a
}

// checkFinished reports an error if FinishToken returns something else than chapter 16 states, and tells
// whether there is a token.
func checkFinished(t *testing.T, serial int, blinding int, key int, a impl.BlindReply) bool {
	t.Helper()
	got, ok := impl.FinishToken(serial, blinding, key, a)
	want, wantOk := referenceToken(serial, blinding, key, a)
	if got != want || ok != wantOk {
		t.Fatalf("FinishToken(%d, %d, %d, %v) = %v, %v, want %v, %v", serial, blinding, key, a, got, ok, want, wantOk)
	}
	return ok
}

func rejectBlinded(t *testing.T, serial int, blinding int) {
	t.Helper()
	if r, ok := impl.BlindToken(serial, blinding); ok || r != (impl.BlindRequest{}) {
		t.Fatalf("BlindToken(%d, %d) = %v, %v", serial, blinding, r, ok)
	}
}

func rejectReply(t *testing.T, secret int, element int, nonce int) {
	t.Helper()
	if a, ok := impl.SignBlinded(secret, request(element), nonce); ok || a != (impl.BlindReply{}) {
		t.Fatalf("SignBlinded(%d, {%d}, %d) = %v, %v", secret, element, nonce, a, ok)
	}
}

func rejectToken(t *testing.T, serial int, blinding int, key int, a impl.BlindReply) {
	t.Helper()
	if x, ok := impl.FinishToken(serial, blinding, key, a); ok || x != (impl.Token{}) {
		t.Fatalf("FinishToken(%d, %d, %d, %v) = %v, %v", serial, blinding, key, a, x, ok)
	}
}

func rejectExplainedRequest(t *testing.T, element int, serial int) {
	t.Helper()
	if blinding, ok := impl.ExplainRequest(request(element), serial); ok || blinding != 0 {
		t.Fatalf("ExplainRequest({%d}, %d) = %d, %v", element, serial, blinding, ok)
	}
}

func TestMaxSerial(t *testing.T) {
	if impl.MaxSerial != 100000 {
		t.Errorf("MaxSerial = %d", impl.MaxSerial)
	}
}

func TestIssuerKey(t *testing.T) {
	cases := []struct{ secret, want int }{
		{1, 4}, {2, 16}, {55, 607}, {56, 389}, {510, 2}, {1018, 510}, {1020, 4}, {-1, 510}, {-1018, 4}, {-1020, 510},
		{impl.MaxValue, 300}, {math.MaxInt, 1262}, {math.MinInt, 1936},
		// a secret that is 0 modulo FieldSize has a key too
		{0, 1}, {1019, 1}, {-1019, 1}, {2038, 1}, {math.MaxInt - 681, 1}, {math.MinInt + 682, 1},
	}
	for _, c := range cases {
		if got := impl.IssuerKey(c.secret); got != c.want {
			t.Errorf("IssuerKey(%d) = %d, want %d", c.secret, got, c.want)
		}
	}
}

// Every element is the key of one secret modulo FieldSize.
func TestIssuerKeyOfEverySecret(t *testing.T) {
	for secret, key := range powersOf(4) {
		for _, n := range []int{secret, secret + 1019, secret - 1019, secret + 1019*1000000007, secret - 1019*1000000007} {
			if got := impl.IssuerKey(n); got != key {
				t.Fatalf("IssuerKey(%d) = %d, want %d", n, got, key)
			}
		}
	}
	for _, secret := range someExponents {
		if got, want := impl.IssuerKey(secret), referencePower(4, secret); got != want {
			t.Errorf("IssuerKey(%d) = %d, want %d", secret, got, want)
		}
	}
}

func TestBlindToken(t *testing.T) {
	cases := []struct{ serial, blinding, want int }{
		{12, 300, 1840}, {12, 1, 1934}, {12, 2, 830}, {12, 1018, 1437}, {1, 300, 441}, {99999, 300, 1450},
		{1654, 1, 4}, {1654, 510, 2}, {707, 1, 510}, {707, 1018, 4},
		// the ends of the serial numbers
		{0, 1, 50}, {0, 300, 245}, {100000, 1, 1821}, {100000, 300, 16},
		// the remainder of the blinding counts
		{12, 1020, 1934}, {12, 1319, 1840}, {12, -719, 1840}, {12, -1, 1437}, {12, impl.MaxValue, 408}, {12, -impl.MaxValue, 5},
		{12, math.MaxInt, 991}, {12, math.MinInt, 1452},
	}
	for _, c := range cases {
		if got, ok := impl.BlindToken(c.serial, c.blinding); !ok || got != request(c.want) {
			t.Errorf("BlindToken(%d, %d) = %v, %v, want %d", c.serial, c.blinding, got, ok, c.want)
		}
	}
}

func TestBlindTokenAgainstReference(t *testing.T) {
	check := func(serial int, blinding int) {
		t.Helper()
		got, ok := impl.BlindToken(serial, blinding)
		want, wantOk := referenceRequest(serial, blinding)
		if got != want || ok != wantOk {
			t.Fatalf("BlindToken(%d, %d) = %v, %v, want %v, %v", serial, blinding, got, ok, want, wantOk)
		}
		if ok && got.Element != impl.PowGroup(impl.HashToGroup(101, serial), blinding) {
			t.Fatalf("BlindToken(%d, %d) = %v is another power", serial, blinding, got)
		}
	}
	for _, serial := range slices.Concat(someSerials, notSerials) {
		for _, blinding := range slices.Concat(someExponents, notHiding) {
			check(serial, blinding)
		}
	}
	for serial := range 1500 {
		check(serial*67, serial)
	}
}

func TestBlindTokenRejects(t *testing.T) {
	for _, blinding := range notHiding {
		for _, serial := range someSerials {
			rejectBlinded(t, serial, blinding)
		}
		for _, serial := range notSerials {
			rejectBlinded(t, serial, blinding)
		}
	}
	for _, serial := range notSerials {
		for _, blinding := range hidingExponents() {
			rejectBlinded(t, serial, blinding)
		}
	}
}

// The blindings of a serial number yield every element but 1, and each of them once.
func TestBlindTokenOfEveryBlinding(t *testing.T) {
	for _, serial := range someSerials {
		seen := map[int]bool{}
		for blinding := 1; blinding <= 1018; blinding++ {
			x := asked(t, serial, blinding).Element
			if !inGroup(x) || x == 1 {
				t.Fatalf("BlindToken(%d, %d) has the element %d", serial, blinding, x)
			}
			if again := asked(t, serial, blinding-1019).Element; again != x {
				t.Fatalf("BlindToken(%d, %d) has the element %d, want %d", serial, blinding-1019, again, x)
			}
			seen[x] = true
		}
		if len(seen) != 1018 {
			t.Errorf("%d different requests for the serial number %d, want 1018", len(seen), serial)
		}
	}
}

func TestSignBlinded(t *testing.T) {
	cases := []struct {
		secret, element, nonce int
		want                   impl.BlindReply
	}{
		{55, 4, 7, reply(607, 596, 854)}, {55, 16, 0, reply(1429, 935, 544)}, {55, 16, -1, reply(1429, 761, 942)},
		{55, 16, 1019, reply(1429, 935, 544)}, {55, 16, 7, reply(1429, 272, 332)}, {55, 16, 1026, reply(1429, 272, 332)},
		{55, 2032, 7, reply(1992, 83, 537)}, {1, 16, 7, reply(16, 817, 209)}, {1018, 16, 7, reply(1147, 891, 898)},
		// the remainder of the secret counts
		{1020, 16, 7, reply(16, 817, 209)}, {-1, 16, 7, reply(1147, 891, 898)}, {1074, 16, 7, reply(1429, 272, 332)},
		{-964, 16, 7, reply(1429, 272, 332)},
		// nonces and secrets with which products and differences come back at the other end of int
		{55, 16, math.MaxInt, reply(1429, 541, 477)}, {55, 16, math.MinInt, reply(1429, 65, 164)},
		{math.MaxInt, 16, 7, reply(185, 236, 243)}, {math.MinInt, 16, 7, reply(414, 994, 7)}, {math.MinInt, 16, math.MinInt, reply(414, 17, 0)},
	}
	for _, c := range cases {
		if got, ok := impl.SignBlinded(c.secret, request(c.element), c.nonce); !ok || got != c.want {
			t.Errorf("SignBlinded(%d, {%d}, %d) = %v, %v, want %v", c.secret, c.element, c.nonce, got, ok, c.want)
		}
	}
}

func TestSignBlindedAgainstReference(t *testing.T) {
	check := func(secret int, element int, nonce int) {
		t.Helper()
		got, ok := impl.SignBlinded(secret, request(element), nonce)
		want, wantOk := referenceReply(secret, request(element), nonce)
		if got != want || ok != wantOk {
			t.Fatalf("SignBlinded(%d, {%d}, %d) = %v, %v, want %v, %v", secret, element, nonce, got, ok, want, wantOk)
		}
		if !ok {
			return
		}
		challenge, response := impl.ProveEqual(4, element, secret, nonce)
		if got != reply(impl.PowGroup(element, secret), challenge, response) {
			t.Fatalf("SignBlinded(%d, {%d}, %d) = %v is another power or another proof", secret, element, nonce, got)
		}
	}
	for _, secret := range someExponents {
		for _, nonce := range someExponents {
			for _, element := range []int{4, 16, 2032, 1840, 1, 0, 2038} {
				check(secret, element, nonce)
			}
		}
		for _, element := range someGroupElements {
			check(secret, element, 7)
		}
	}
	for x := -3; x <= 2042; x++ {
		check(55, x, 7)
		check(-1, x, x)
	}
	for secret := range 1019 {
		check(secret, 1840, 7)
		check(55, 1840, secret)
	}
}

func TestSignBlindedRejects(t *testing.T) {
	nonces := []int{0, 7, 1019, -1, math.MinInt, math.MaxInt}
	for _, nonce := range nonces {
		for _, secret := range hidingExponents() {
			for _, x := range notGroupElements {
				rejectReply(t, secret, x, nonce)
			}
			rejectReply(t, secret, 1, nonce)
		}
		for _, secret := range notHiding {
			for _, x := range someGroupElements {
				rejectReply(t, secret, x, nonce)
			}
			for _, x := range notGroupElements {
				rejectReply(t, secret, x, nonce)
			}
		}
	}
	for x := range 2041 {
		if !inGroup(x) {
			rejectReply(t, 55, x, 7)
		}
	}
}

func TestFinishToken(t *testing.T) {
	cases := []struct {
		serial, blinding, key int
		a                     impl.BlindReply
		want                  impl.Token
	}{
		{12, 300, 607, reply(106, 29, 450), tokenOf(12, 620)}, {12, 301, 607, reply(472, 398, 535), tokenOf(12, 620)},
		{12, 1, 607, reply(620, 625, 278), tokenOf(12, 620)}, {12, 1018, 607, reply(1253, 340, 668), tokenOf(12, 620)},
		{0, 300, 607, reply(1909, 791, 312), tokenOf(0, 1730)}, {100000, 300, 607, reply(1429, 761, 942), tokenOf(100000, 1407)},
		{12, 300, 4, reply(1840, 59, 967), tokenOf(12, 1934)}, {12, 300, 510, reply(666, 323, 330), tokenOf(12, 1437)},
		// the remainder of the blinding counts
		{12, -1, 607, reply(1253, 340, 668), tokenOf(12, 620)}, {12, 1319, 607, reply(106, 29, 450), tokenOf(12, 620)},
		{12, math.MaxInt, 607, reply(1863, 935, 551), tokenOf(12, 620)}, {12, math.MinInt, 607, reply(213, 178, 407), tokenOf(12, 620)},
		// the nonce was the greatest integer
		{12, 300, 607, reply(106, 439, 992), tokenOf(12, 620)},
		// the key of the secret 0 and proofs for it: only IsValidToken refuses such tokens
		{12, 300, 1, reply(1, 389, 0), tokenOf(12, 1)}, {12, 300, 1, reply(1, 644, 7), tokenOf(12, 1)}, {12, 300, 1, reply(1, 383, 100), tokenOf(12, 1)},
	}
	for _, c := range cases {
		if got, ok := impl.FinishToken(c.serial, c.blinding, c.key, c.a); !ok || got != c.want {
			t.Errorf("FinishToken(%d, %d, %d, %v) = %v, %v, want %v", c.serial, c.blinding, c.key, c.a, got, ok, c.want)
		}
		checkFinished(t, c.serial, c.blinding, c.key, c.a)
	}
}

func TestFinishTokenRefuses(t *testing.T) {
	good := reply(106, 29, 450)
	cases := []struct {
		serial, blinding, key int
		a                     impl.BlindReply
	}{
		// another serial number, another blinding, another key
		{13, 300, 607, good}, {12, 301, 607, good}, {12, -300, 607, good}, {12, 300, 389, good}, {12, 300, 55, good},
		// one field of the reply is another
		{12, 300, 607, reply(424, 29, 450)}, {12, 300, 607, reply(106, 30, 450)}, {12, 300, 607, reply(106, 29, 451)},
		{12, 300, 607, reply(1, 29, 450)}, {12, 300, 607, reply(1840, 29, 450)},
		// one field has the same remainder
		{12, 300, 607, reply(106+2039, 29, 450)}, {12, 300, 607, reply(106, 29+1019, 450)}, {12, 300, 607, reply(106, 29, 450-1019)},
		{12, 300, 607 + 2039, good},
		// keys and elements that are none
		{12, 300, 0, good}, {12, 300, 1, good}, {12, 300, -1, good}, {12, 300, 2038, good}, {12, 300, 2039, good},
		{12, 300, 607, reply(0, 29, 450)}, {12, 300, 607, reply(-1, 29, 450)}, {12, 300, 607, reply(2038, 29, 450)}, {12, 300, 607, reply(2039, 29, 450)},
		// no request
		{-1, 300, 607, good}, {100001, 300, 607, good}, {12, 0, 607, good}, {12, 1019, 607, good}, {12, -1019, 607, good},
		{-1, 0, 607, good}, {100001, 1019, 0, impl.BlindReply{}},
		// the products in the proofs of these secrets and of this nonce come back at the other end of int
		{12, 300, 1262, reply(745, 177, 521)}, {12, 300, 1936, reply(31, 328, 7)}, {12, 300, 607, reply(106, 363, 78)},
		// zero arguments
		{12, 300, 607, impl.BlindReply{}}, {12, 300, 0, impl.BlindReply{}}, {12, 300, 1, impl.BlindReply{}}, {0, 0, 0, impl.BlindReply{}},
	}
	for _, c := range cases {
		rejectToken(t, c.serial, c.blinding, c.key, c.a)
		checkFinished(t, c.serial, c.blinding, c.key, c.a)
	}
}

func TestFinishTokenAgainstReference(t *testing.T) {
	finished := 0
	exponents := hidingExponents()
	for _, secret := range exponents {
		for j, nonce := range someExponents {
			for i, serial := range someSerials {
				blinding := exponents[(i*7+j)%len(exponents)]
				a := signed(t, secret, asked(t, serial, blinding), nonce)
				if checkFinished(t, serial, blinding, impl.IssuerKey(secret), a) {
					finished++
				}
			}
		}
	}
	if finished < 1000 {
		t.Errorf("only %d tokens are finished", finished)
	}
}

// A token is valid although it was signed blindly.
func TestBlindlySignedTokenIsValid(t *testing.T) {
	check := func(serial int, blinding int, secret int, nonce int) {
		t.Helper()
		a := signed(t, secret, asked(t, serial, blinding), nonce)
		x, ok := impl.FinishToken(serial, blinding, impl.IssuerKey(secret), a)
		if want := validToken(secret, serial); !ok || x != want {
			t.Fatalf("the token of %d, %d, %d and %d is %v, %v, want %v", serial, blinding, secret, nonce, x, ok, want)
		}
		if !impl.IsValidToken(secret, x) || !impl.IsValidToken(secret+1019, x) || impl.IsValidToken(secret+1, x) {
			t.Fatalf("the token %v of %d, %d, %d and %d is not valid, or for another secret", x, serial, blinding, secret, nonce)
		}
	}
	for _, serial := range someSerials {
		for _, blinding := range plainExponents {
			for _, secret := range plainExponents {
				for _, nonce := range []int{0, 7, 1019, -1, impl.MaxValue, -impl.MaxValue} {
					check(serial, blinding, secret, nonce)
				}
			}
		}
	}
	for n := 1; n <= 1018; n++ {
		check(12, n, 55, 7)
		check(12, 300, n, 7)
		check(12, 300, 55, n)
		check(n*98, 300, 55, 7)
	}
	// A blinding is reduced before it can wrap around.
	for _, blinding := range hidingExponents() {
		check(12, blinding, 55, 7)
	}
}

// The token does not depend on the blinding or the nonce.
func TestTokensOfOtherBlindings(t *testing.T) {
	for _, serial := range someSerials {
		want := validToken(55, serial)
		for blinding := 1; blinding <= 1018; blinding += 7 {
			a := signed(t, 55, asked(t, serial, blinding), blinding*3)
			if got, ok := impl.FinishToken(serial, blinding, 607, a); !ok || got != want {
				t.Fatalf("with the blinding %d the token is %v, %v, want %v", blinding, got, ok, want)
			}
		}
	}
}

// A reply of which one field is changed is accepted only if the formula says so, which is rare.
func TestFinishTokenOfChangedReplies(t *testing.T) {
	elements := groupElements()
	numbers := append([]int{1019, 1020, 2038, 2039, 1 << 32, -1019}, notCounters...)
	for _, serial := range someSerials {
		blinding, key := 300+serial, impl.IssuerKey(55)
		good := signed(t, 55, asked(t, serial, blinding), 7)
		accepted := 0
		check := func(a impl.BlindReply) {
			t.Helper()
			if checkFinished(t, serial, blinding, key, a) && a != good {
				accepted++
			}
		}
		for i, x := range elements {
			check(reply(x, good.Challenge, good.Response))
			check(reply(good.Element, i, good.Response))
			check(reply(good.Element, good.Challenge, i))
		}
		for _, x := range notGroupElements {
			rejectToken(t, serial, blinding, key, reply(x, good.Challenge, good.Response))
		}
		for _, n := range numbers {
			rejectToken(t, serial, blinding, key, reply(good.Element, n, good.Response))
			rejectToken(t, serial, blinding, key, reply(good.Element, good.Challenge, n))
		}
		if accepted > 12 {
			t.Errorf("%d of 3054 changes of %v are accepted", accepted, good)
		}
	}
}

// A reply is for one key and for one request.
func TestFinishTokenOfOtherArguments(t *testing.T) {
	for _, serial := range someSerials {
		blinding, key := 300+serial, impl.IssuerKey(55)
		good := signed(t, 55, asked(t, serial, blinding), 7)
		accepted := 0
		count := func(ok bool) {
			if ok {
				accepted++
			}
		}
		for i, x := range groupElements() {
			if x != key {
				count(checkFinished(t, serial, blinding, x, good))
			}
			if !isMultiple(i - blinding) {
				count(checkFinished(t, serial, i, key, good))
			}
			if other := i * 98; referenceSerial(other) != referenceSerial(serial) {
				count(checkFinished(t, other, blinding, key, good))
			}
		}
		if accepted > 12 {
			t.Errorf("the reply %v is accepted with %d of 3057 other arguments", good, accepted)
		}
	}
}

func TestFinishTokenRejects(t *testing.T) {
	good := signed(t, 55, asked(t, 12, 300), 7)
	for _, a := range []impl.BlindReply{good, {}, reply(1, 0, 0), reply(1, 389, 0), reply(2038, 29, 450), reply(106, -1, 450)} {
		for _, key := range []int{607, 0, 1, -1, 2038, 2039} {
			for _, serial := range notSerials {
				for _, blinding := range append([]int{300, 1, -1}, notHiding...) {
					rejectToken(t, serial, blinding, key, a)
				}
			}
			for _, serial := range someSerials {
				for _, blinding := range notHiding {
					rejectToken(t, serial, blinding, key, a)
				}
			}
		}
	}
	for _, key := range notGroupElements {
		rejectToken(t, 12, 300, key, good)
		rejectToken(t, 12, 300, key, impl.BlindReply{})
		rejectToken(t, 12, 300, key, reply(key, key, key))
	}
}

// What VerifyEqual would accept if the request of a refused serial number or blinding were an element.
func TestFinishTokenOfNoRequest(t *testing.T) {
	reject := func(serial int, blinding int, element int) {
		t.Helper()
		for _, nonce := range []int{0, 7, 100} {
			challenge, response := impl.ProveEqual(4, element, 55, nonce)
			rejectToken(t, serial, blinding, 607, reply(referencePower(element, 55), challenge, response))
		}
	}
	for _, blinding := range notHiding {
		for _, serial := range someSerials {
			reject(serial, blinding, 1)
		}
	}
	for _, serial := range notSerials {
		for _, blinding := range hidingExponents() {
			reject(serial, blinding, referencePower(impl.HashToGroup(101, serial), blinding))
		}
	}
}

// A reply can be finished for every serial number, so it reveals none, and each of these tokens is valid.
func TestReplyFitsEverySerial(t *testing.T) {
	for _, nonce := range []int{0, 7, 1018} {
		r := asked(t, 12, 300)
		a := signed(t, 55, r, nonce)
		for serial := 0; serial <= impl.MaxSerial; serial += 125 {
			blinding, ok := impl.ExplainRequest(r, serial)
			x, finished := impl.FinishToken(serial, blinding, 607, a)
			if !ok || !finished || x.Serial != serial || !impl.IsValidToken(55, x) {
				t.Fatalf("the reply to a request for 12 and %d is %v, %v", serial, x, finished)
			}
		}
	}
}

func TestIsValidToken(t *testing.T) {
	cases := []struct {
		secret int
		x      impl.Token
		want   bool
	}{
		{55, tokenOf(12, 620), true}, {55, tokenOf(0, 1730), true}, {55, tokenOf(100000, 1407), true}, {1, tokenOf(12, 1934), true},
		{1018, tokenOf(12, 1437), true}, {55 + 1019, tokenOf(12, 620), true}, {55 - 1019, tokenOf(12, 620), true}, {-1, tokenOf(12, 1437), true},
		{1, tokenOf(1654, 4), true}, {510, tokenOf(1654, 2), true},
		// another serial number has the same element
		{55, tokenOf(398, 620), true}, {55, tokenOf(1521, 620), true},
		// another secret, another serial number, another value
		{56, tokenOf(12, 620), false}, {-55, tokenOf(12, 620), false}, {55, tokenOf(13, 620), false}, {55, tokenOf(12, 621), false},
		{55, tokenOf(12, 620+2039), false}, {55, tokenOf(12, 620-2039), false}, {55, tokenOf(12, -620), false}, {55, tokenOf(-12, 620), false},
		{55, tokenOf(12, 0), false}, {55, tokenOf(12, 1), false}, {55, tokenOf(12, 1934), false}, {55, tokenOf(620, 12), false},
		// a secret that is 0 modulo FieldSize
		{0, tokenOf(12, 1), false}, {1019, tokenOf(12, 1), false}, {-1019, tokenOf(12, 1), false}, {math.MaxInt - 681, tokenOf(12, 1), false},
		{math.MinInt + 682, tokenOf(0, 1), false}, {0, tokenOf(12, 0), false}, {0, tokenOf(12, 1934), false}, {0, tokenOf(-1, 1), false},
		// the zero token
		{0, impl.Token{}, false}, {1, impl.Token{}, false}, {55, impl.Token{}, false}, {math.MinInt, impl.Token{}, false},
	}
	for _, c := range cases {
		if got := impl.IsValidToken(c.secret, c.x); got != c.want || got != referenceValid(c.secret, c.x) {
			t.Errorf("IsValidToken(%d, %v) = %v, want %v", c.secret, c.x, got, c.want)
		}
	}
}

// A token is valid for one secret modulo FieldSize.
func TestIsValidTokenOfEverySecret(t *testing.T) {
	for _, serial := range someSerials {
		for _, own := range []int{1, 55, 510, 1018} {
			x := validToken(own, serial)
			for secret := -1100; secret <= 2100; secret++ {
				if got := impl.IsValidToken(secret, x); got != isMultiple(secret-own) {
					t.Fatalf("IsValidToken(%d, %v) = %v, but the token is of %d", secret, x, got, own)
				}
			}
		}
		for _, secret := range append(hidingExponents(), notHiding...) {
			x := validToken(secret, serial)
			if got := impl.IsValidToken(secret, x); got == isMultiple(secret) {
				t.Fatalf("IsValidToken(%d, %v) = %v", secret, x, got)
			}
		}
	}
}

// Of all values, one is valid with a serial number.
func TestIsValidTokenOfEveryValue(t *testing.T) {
	for _, serial := range someSerials {
		own := validToken(55, serial)
		for value := -2 * 2039; value <= 2*2039; value++ {
			if got := impl.IsValidToken(55, tokenOf(serial, value)); got != (value == own.Value) {
				t.Fatalf("IsValidToken(55, %d:%d) = %v", serial, value, got)
			}
		}
		for _, value := range notGroupElements {
			if impl.IsValidToken(55, tokenOf(serial, value)) {
				t.Errorf("the token %d:%d is valid", serial, value)
			}
		}
	}
}

// A value is valid with the serial numbers of one element, and with every one of them.
func TestIsValidTokenOfEverySerial(t *testing.T) {
	valid := 0
	for serial := -1000; serial <= impl.MaxSerial+1000; serial++ {
		got := impl.IsValidToken(55, tokenOf(serial, 620))
		inRange := 0 <= serial && serial <= 100000
		if want := inRange && referenceSerial(serial) == 1934; got != want {
			t.Fatalf("IsValidToken(55, %d:620) = %v", serial, got)
		}
		if got {
			valid++
		}
	}
	// There are a hundred times as many serial numbers as elements.
	if valid < 50 || valid > 200 {
		t.Errorf("%d serial numbers have the element of 12", valid)
	}
}

func TestIsValidTokenRejects(t *testing.T) {
	for _, serial := range notSerials {
		for _, secret := range append(hidingExponents(), notHiding...) {
			for _, value := range []int{referencePower(impl.HashToGroup(101, serial), secret), 0, 1} {
				if impl.IsValidToken(secret, tokenOf(serial, value)) {
					t.Fatalf("IsValidToken(%d, %d:%d) = true", secret, serial, value)
				}
			}
		}
	}
	for _, secret := range notHiding {
		for _, serial := range someSerials {
			for value := -1; value <= 2040; value++ {
				if impl.IsValidToken(secret, tokenOf(serial, value)) {
					t.Fatalf("IsValidToken(%d, %d:%d) = true", secret, serial, value)
				}
			}
		}
	}
}

func TestExplainRequest(t *testing.T) {
	cases := []struct{ element, serial, want int }{
		{1840, 12, 300}, {1840, 398, 300}, {1934, 12, 1}, {1437, 12, 1018}, {2, 12, 372}, {50, 0, 1}, {4, 0, 660}, {1821, 100000, 1},
		{4, 100000, 150}, {16, 100000, 300}, {4, 707, 1018}, {4, 1654, 1}, {16, 1654, 2}, {510, 1654, 1018}, {2032, 5, 546}, {1882, 5, 1},
	}
	for _, c := range cases {
		if got, ok := impl.ExplainRequest(request(c.element), c.serial); !ok || got != c.want {
			t.Errorf("ExplainRequest({%d}, %d) = %d, %v, want %d", c.element, c.serial, got, ok, c.want)
		}
	}
}

// Every request is one for every serial number, with one blinding.
func TestExplainRequestOfEveryElement(t *testing.T) {
	for _, serial := range someSerials {
		for exponent, x := range powersOf(referenceSerial(serial)) {
			if exponent == 0 {
				continue
			}
			blinding, ok := impl.ExplainRequest(request(x), serial)
			if !ok || blinding != exponent {
				t.Fatalf("ExplainRequest({%d}, %d) = %d, %v, want %d", x, serial, blinding, ok, exponent)
			}
			if got := asked(t, serial, blinding); got != request(x) {
				t.Fatalf("BlindToken(%d, %d) = %v, want the element %d", serial, blinding, got, x)
			}
		}
	}
}

func TestExplainRequestOfManySerials(t *testing.T) {
	for serial := 0; serial <= impl.MaxSerial; serial += 20 {
		x := []int{2, 3, 4, 16, 1840, 2032}[serial/20%6]
		blinding, ok := impl.ExplainRequest(request(x), serial)
		if !ok || blinding < 1 || blinding > 1018 || asked(t, serial, blinding) != request(x) {
			t.Fatalf("ExplainRequest({%d}, %d) = %d, %v", x, serial, blinding, ok)
		}
	}
}

// The blinding that was taken explains its request.
func TestExplainRequestOfKnownBlinding(t *testing.T) {
	for _, serial := range someSerials {
		for _, blinding := range hidingExponents() {
			want := referenceField(big.NewInt(int64(blinding)))
			if got, ok := impl.ExplainRequest(asked(t, serial, blinding), serial); !ok || got != want {
				t.Fatalf("the request of BlindToken(%d, %d) is explained by %d, %v, want %d", serial, blinding, got, ok, want)
			}
		}
	}
}

func TestExplainRequestRejects(t *testing.T) {
	for _, serial := range notSerials {
		for _, x := range slices.Concat([]int{impl.HashToGroup(101, serial)}, someGroupElements, notGroupElements) {
			rejectExplainedRequest(t, x, serial)
		}
	}
	for _, serial := range someSerials {
		rejectExplainedRequest(t, 1, serial)
		for _, x := range notGroupElements {
			rejectExplainedRequest(t, x, serial)
		}
		for x := range 2041 {
			if !inGroup(x) {
				rejectExplainedRequest(t, x, serial)
			}
		}
	}
}

func TestFormatToken(t *testing.T) {
	cases := []struct {
		x    impl.Token
		want string
	}{
		{tokenOf(3, 64), "3:64"}, {tokenOf(12, 620), "12:620"}, {tokenOf(64, 3), "64:3"}, {impl.Token{}, "0:0"}, {tokenOf(100000, 2032), "100000:2032"},
		// also of what is not valid
		{tokenOf(-1, 5), "-1:5"}, {tokenOf(5, -1), "5:-1"}, {tokenOf(-7, -20), "-7:-20"}, {tokenOf(100001, 2039), "100001:2039"}, {tokenOf(10, 0), "10:0"},
		{tokenOf(math.MaxInt, math.MinInt), "9223372036854775807:-9223372036854775808"},
		{tokenOf(math.MinInt, math.MaxInt), "-9223372036854775808:9223372036854775807"},
	}
	for _, c := range cases {
		if got := impl.FormatToken(c.x); got != c.want {
			t.Errorf("FormatToken(%v) = %q, want %q", c.x, got, c.want)
		}
	}
	for _, serial := range someSerials {
		for _, value := range someExponents {
			want := impl.FormatInt(serial) + ":" + impl.FormatInt(value)
			if got := impl.FormatToken(tokenOf(serial, value)); got != want {
				t.Errorf("FormatToken of %d and %d = %q", serial, value, got)
			}
		}
	}
}
