package tests

import (
	"bytes"
	"math"
	"math/big"
	"slices"
	"testing"

	"loop.example/g00516/impl"
)

// someKeys lists keys of every kind: those at the limits of validity, beyond them, and ordinary ones.
var someKeys = []int{0, 1, 2, 77, 123456789, impl.Modulus - 1, impl.Modulus, impl.Modulus + 1, impl.MaxValue,
	-1, -77, -impl.Modulus, -impl.Modulus - 1, math.MinInt, math.MinInt + 1, math.MaxInt, math.MaxInt - 1}

// someLists lists lists of values, with equal ones, values at and beyond Modulus, and negative ones.
var someLists = [][]int{
	nil,
	{},
	{0},
	{4},
	{-1},
	{0, 0},
	{0, 0, 0},
	{1, 2, 3},
	{3, 2, 1},
	{7, 7, 7, 7},
	{impl.Modulus - 1, impl.Modulus, impl.Modulus + 1},
	{-impl.Modulus, -impl.Modulus - 1, 1 - impl.Modulus},
	{impl.MaxValue, -impl.MaxValue},
	{math.MinInt, math.MaxInt, 0, -7},
}

// referenceHash computes a hash as chapter 3 states it, with integers that do not wrap around.
func referenceHash(values []int) int {
	modulus := big.NewInt(2147483647)
	sum := big.NewInt(11)
	for _, v := range values {
		// Mod of package big is never negative
		remainder := new(big.Int).Mod(big.NewInt(int64(v)), modulus)
		sum.Mul(sum, big.NewInt(1000003))
		sum.Add(sum, remainder)
		sum.Add(sum, big.NewInt(13))
		sum.Mod(sum, modulus)
	}
	return int(sum.Int64())
}

func TestModulus(t *testing.T) {
	if impl.Modulus != 2147483647 {
		t.Errorf("Modulus is %d", impl.Modulus)
	}
}

func TestHash(t *testing.T) {
	cases := []struct {
		values []int
		want   int
	}{
		{nil, 11},
		{[]int{}, 11},
		{[]int{5}, 11000051},
		{[]int{0}, 11000046},
		{[]int{0, 0}, 667760217},
		{[]int{1, 2, 3}, 1460866530},
		{[]int{3, 2, 1}, 18107542},
		// values at and beyond Modulus
		{[]int{impl.Modulus - 1}, 11000045},
		{[]int{impl.Modulus}, 11000046},
		{[]int{impl.Modulus + 1}, 11000047},
		{[]int{5 + impl.Modulus}, 11000051},
		{[]int{5 + 7*impl.Modulus}, 11000051},
		// a negative value counts as its remainder, which is not negative
		{[]int{-1}, 11000045},
		{[]int{5 - impl.Modulus}, 11000051},
		{[]int{-impl.Modulus}, 11000046},
		{[]int{-impl.Modulus - 1}, 11000045},
		{[]int{math.MinInt}, 11000044},
		{[]int{math.MaxInt}, 11000047},
		{[]int{math.MinInt, math.MaxInt, 0, -7}, 1929232754},
		{[]int{impl.MaxValue, -impl.MaxValue}, 339527524},
		// the least and the greatest hash
		{[]int{-11000046}, 0},
		{[]int{-11000045}, 1},
		{[]int{-11000047}, impl.Modulus - 1},
	}
	for _, c := range cases {
		if got := impl.Hash(c.values); got != c.want {
			t.Errorf("Hash(%v) = %d, want %d", c.values, got, c.want)
		}
	}
}

func TestHashAgainstReference(t *testing.T) {
	long := []int{}
	for i := range 300 {
		long = append(long, i*i*i*1000003-5000000)
		if got, want := impl.Hash(long), referenceHash(long); got != want {
			t.Errorf("Hash of %d values = %d, want %d", len(long), got, want)
		}
	}
	for _, values := range someLists {
		if got, want := impl.Hash(values), referenceHash(values); got != want {
			t.Errorf("Hash(%v) = %d, want %d", values, got, want)
		}
	}
	// the accumulators after the first value are those about 0 and Modulus-1
	for v := -11000100; v <= -11000000; v++ {
		if got, want := impl.Hash([]int{v, -1}), referenceHash([]int{v, -1}); got != want {
			t.Errorf("Hash of %d and -1 = %d, want %d", v, got, want)
		}
	}
}

func TestKeyedHash(t *testing.T) {
	cases := []struct {
		key    int
		values []int
		want   int
	}{
		{3, []int{4}, 20107550},
		{3, nil, 670760229},
		{-3, []int{4}, 53417208},
		{impl.Modulus - 3, []int{4}, 53417208},
		{0, nil, 667760217},
		{0, []int{4}, 36762379},
		{0, []int{-4, math.MaxInt}, 1193802810},
		{1, []int{}, 668760221},
		{1, []int{4}, 1462866534},
		{1, []int{-4, math.MaxInt}, 95880925},
		{impl.Modulus - 1, []int{4}, 758141871},
		{impl.Modulus, []int{4}, 36762379},
		{-1, []int{4}, 758141871},
		{-1, []int{-4, math.MaxInt}, 144241048},
		{-impl.Modulus, nil, 667760217},
		{77, []int{4}, 325116317},
		{77, []int{1}, 322116308},
		{math.MinInt, []int{4}, 1479521363},
		{math.MaxInt, []int{4}, 1462866534},
	}
	for _, c := range cases {
		if got := impl.KeyedHash(c.key, c.values); got != c.want {
			t.Errorf("KeyedHash(%d, %v) = %d, want %d", c.key, c.values, got, c.want)
		}
	}
}

// A keyed hash is the hash of its values with the key before and behind them.
func TestKeyedHashIsHash(t *testing.T) {
	for _, key := range someKeys {
		for _, values := range someLists {
			sequence := slices.Concat([]int{key}, values, []int{key})
			got := impl.KeyedHash(key, values)
			if got != impl.Hash(sequence) || got != referenceHash(sequence) {
				t.Errorf("KeyedHash(%d, %v) = %d, want %d", key, values, got, referenceHash(sequence))
			}
			if got < 0 || got >= impl.Modulus {
				t.Errorf("KeyedHash(%d, %v) = %d is out of range", key, values, got)
			}
		}
	}
}

// A change of one value by anything but a multiple of Modulus changes the keyed hash.
func TestKeyedHashDependsOnEachValue(t *testing.T) {
	changes := []int{1, -1, 2, 256, 1000003, impl.Modulus - 1, impl.Modulus + 1, -impl.Modulus - 1, 1 << 31, 1 << 32}
	for _, key := range someKeys {
		for _, length := range []int{1, 2, 3, 10, 100} {
			values := make([]int, length)
			for i := range values {
				values[i] = i*i - 20
			}
			want := impl.KeyedHash(key, values)
			for i := range values {
				for _, change := range changes {
					changed := slices.Clone(values)
					changed[i] += change
					if impl.KeyedHash(key, changed) == want {
						t.Errorf("key %d: %d added to value %d of %d does not change the keyed hash", key, change, i, length)
					}
				}
				for _, change := range []int{impl.Modulus, -impl.Modulus, 1000 * impl.Modulus} {
					changed := slices.Clone(values)
					changed[i] += change
					if impl.KeyedHash(key, changed) != want {
						t.Errorf("key %d: %d added to value %d of %d changes the keyed hash", key, change, i, length)
					}
				}
			}
		}
	}
}

// The keyed hash depends on the key, on the order of the values and on their number.
func TestKeyedHashDependsOnKeyAndOrder(t *testing.T) {
	for _, values := range [][]int{nil, {4}, {1, 2, 3}, {-1, -2, -3, -4}} {
		seen := map[int]int{}
		for key := range 1000 {
			h := impl.KeyedHash(key, values)
			if other, known := seen[h]; known {
				t.Errorf("KeyedHash of %v is %d for the keys %d and %d", values, h, other, key)
			}
			seen[h] = key
		}
	}
	different := [][]int{nil, {0}, {0, 0}, {0, 0, 0}, {1}, {0, 1}, {1, 0}, {1, 2, 3}, {3, 2, 1}, {2, 1, 3}, {1, 3, 2}}
	for _, key := range someKeys {
		for i, a := range different {
			for _, b := range different[:i] {
				if impl.KeyedHash(key, a) == impl.KeyedHash(key, b) {
					t.Errorf("KeyedHash with the key %d is equal for %v and %v", key, a, b)
				}
			}
		}
	}
}

func TestHashesLeaveArguments(t *testing.T) {
	for _, list := range someLists {
		values, unchanged := roomy(list)
		if impl.Hash(values) != impl.Hash(list) || !unchanged() {
			t.Errorf("Hash(%v) depends on the spare capacity or changes its argument", list)
		}
		if impl.KeyedHash(77, values) != impl.KeyedHash(77, list) || !unchanged() {
			t.Errorf("KeyedHash(77, %v) depends on the spare capacity or changes its argument", list)
		}
	}
}

func TestIsValidKey(t *testing.T) {
	for _, key := range []int{1, 2, 77, 1 << 30, impl.Modulus - 2, impl.Modulus - 1} {
		if !impl.IsValidKey(key) {
			t.Errorf("IsValidKey(%d) is false", key)
		}
	}
	for _, key := range []int{0, -1, -2, impl.Modulus, impl.Modulus + 1, impl.Modulus + 2, 2 * impl.Modulus, 1 - impl.Modulus,
		-impl.Modulus, 1<<32 + 1, 1 << 62, impl.MaxValue, -impl.MaxValue, math.MinInt, math.MinInt + 1, math.MaxInt} {
		if impl.IsValidKey(key) {
			t.Errorf("IsValidKey(%d) is true", key)
		}
	}
}

func TestBytesToInts(t *testing.T) {
	cases := []struct {
		b    []byte
		want []int
	}{
		{nil, []int{0}},
		{[]byte{}, []int{0}},
		{[]byte{0}, []int{1, 0}},
		{[]byte{9, 8}, []int{2, 9, 8}},
		{[]byte{8, 9}, []int{2, 8, 9}},
		{[]byte{127, 128, 255, 0}, []int{4, 127, 128, 255, 0}},
	}
	for _, c := range cases {
		if got := impl.BytesToInts(c.b); !slices.Equal(got, c.want) {
			t.Errorf("BytesToInts(%v) = %v, want %v", c.b, got, c.want)
		}
	}
	var b []byte
	want := []int{1000}
	for i := range 1000 {
		b = append(b, byte(i))
		want = append(want, i%256)
	}
	if got := impl.BytesToInts(b); !slices.Equal(got, want) {
		t.Errorf("BytesToInts of %d bytes = %v", len(b), got)
	}
}

func TestBytesToIntsCopies(t *testing.T) {
	for _, content := range [][]byte{{}, {0}, {9, 8}} {
		b, unchanged := roomy(content)
		want := impl.BytesToInts(content)
		checkFresh(t, "BytesToInts", impl.BytesToInts(b), unchanged)
		if got := impl.BytesToInts(b); !slices.Equal(got, want) {
			t.Errorf("BytesToInts of %v after a change of an earlier result = %v, want %v", content, got, want)
		}
	}
}

// someTexts lists texts for the cipher, the empty one, one of every byte and a long one among them.
func someTexts() [][]byte {
	var every []byte
	for c := range 256 {
		every = append(every, byte(c))
	}
	return [][]byte{nil, {}, {0}, {255}, []byte("hello"), {255, 255, 255, 255}, every, bytes.Repeat([]byte{77}, 2000)}
}

func TestEncrypt(t *testing.T) {
	cases := []struct {
		key               int
		plaintext, cipher []byte
	}{
		{77, []byte("hello"), []byte{249, 57, 131, 198, 12}},
		{77, []byte{255, 255, 255, 255}, []byte{144, 211, 22, 89}},
		{0, []byte("hello"), []byte{103, 167, 241, 52, 122}},
		{1, []byte("hello"), []byte{194, 2, 76, 143, 213}},
		{1, []byte{255, 255, 255, 255}, []byte{89, 156, 223, 34}},
		{impl.Modulus - 1, []byte("hello"), []byte{11, 75, 149, 216, 30}},
		{impl.Modulus, []byte("hello"), []byte{103, 167, 241, 52, 122}},
		{-1, []byte("hello"), []byte{11, 75, 149, 216, 30}},
		{-impl.Modulus, []byte{255, 255, 255, 255}, []byte{254, 65, 132, 199}},
		{math.MinInt, []byte("hello"), []byte{175, 239, 57, 124, 194}},
		{math.MaxInt, []byte("hello"), []byte{194, 2, 76, 143, 213}},
		{77, nil, nil},
		{0, []byte{}, nil},
		{-1, nil, nil},
	}
	for _, c := range cases {
		if got := impl.Encrypt(c.key, c.plaintext); !bytes.Equal(got, c.cipher) {
			t.Errorf("Encrypt(%d, %v) = %v, want %v", c.key, c.plaintext, got, c.cipher)
		}
		if got := impl.Decrypt(c.key, c.cipher); !bytes.Equal(got, c.plaintext) {
			t.Errorf("Decrypt(%d, %v) = %v, want %v", c.key, c.cipher, got, c.plaintext)
		}
	}
}

// The byte at index i is changed by the keyed hash of i, and by nothing else.
func TestEncryptBytes(t *testing.T) {
	for _, key := range someKeys {
		for _, text := range someTexts() {
			encrypted, decrypted := impl.Encrypt(key, text), impl.Decrypt(key, text)
			if len(encrypted) != len(text) || len(decrypted) != len(text) {
				t.Fatalf("with the key %d, %d bytes are encrypted to %d and decrypted to %d",
					key, len(text), len(encrypted), len(decrypted))
			}
			for i, c := range text {
				h := referenceHash([]int{key, i, key}) % 256
				if int(encrypted[i]) != (int(c)+h)%256 || int(decrypted[i]) != (int(c)-h+256)%256 {
					t.Fatalf("with the key %d, byte %d at index %d is encrypted to %d and decrypted to %d, the stream being %d",
						key, c, i, encrypted[i], decrypted[i], h)
				}
			}
		}
	}
}

// Decryption inverts encryption, and encryption decryption.
func TestDecryptInvertsEncrypt(t *testing.T) {
	for _, key := range someKeys {
		for _, text := range someTexts() {
			if got := impl.Decrypt(key, impl.Encrypt(key, text)); !bytes.Equal(got, text) {
				t.Errorf("Decrypt of Encrypt with the key %d = %v, want %v", key, got, text)
			}
			if got := impl.Encrypt(key, impl.Decrypt(key, text)); !bytes.Equal(got, text) {
				t.Errorf("Encrypt of Decrypt with the key %d = %v, want %v", key, got, text)
			}
		}
	}
}

func TestDecryptWithAnotherKey(t *testing.T) {
	text := []byte("hello")
	for _, key := range someKeys {
		c := impl.Encrypt(key, text)
		if bytes.Equal(c, text) {
			t.Errorf("Encrypt with the key %d changes nothing", key)
		}
		for _, other := range someKeys {
			same := impl.Mod(key, impl.Modulus) == impl.Mod(other, impl.Modulus)
			if bytes.Equal(impl.Decrypt(other, c), text) != same {
				t.Errorf("whether the key %d decrypts what is encrypted with %d is not %v", other, key, same)
			}
		}
	}
}

func TestCipherCopies(t *testing.T) {
	for _, content := range [][]byte{{}, {7}, {1, 2, 3}, []byte("hello")} {
		b, unchanged := roomy(content)
		encrypted, decrypted := impl.Encrypt(77, b), impl.Decrypt(77, b)
		wantEncrypted, wantDecrypted := slices.Clone(encrypted), slices.Clone(decrypted)
		checkFresh(t, "Encrypt", encrypted, unchanged)
		checkFresh(t, "Decrypt", decrypted, unchanged)
		// an earlier call leaves nothing behind: the stream starts anew, whatever became of the result
		if got := impl.Encrypt(77, content); !bytes.Equal(got, wantEncrypted) {
			t.Errorf("a second Encrypt of %v = %v, want %v", content, got, wantEncrypted)
		}
		if got := impl.Decrypt(77, content); !bytes.Equal(got, wantDecrypted) {
			t.Errorf("a second Decrypt of %v = %v, want %v", content, got, wantDecrypted)
		}
	}
}

func TestDeriveFromString(t *testing.T) {
	cases := []struct {
		key   int
		label string
		want  int
	}{
		{5, "ab", 1905036959},
		{5, "ba", 1182657463},
		{5, "", 720832201},
		{0, "", 32762367},
		{0, "ab", 324653615},
		{1, "", 1458866522},
		{1, "ab", 1929220472},
		{impl.Modulus - 1, "", 754141859},
		{impl.Modulus - 1, "ab", 867570405},
		{impl.Modulus, "ab", 324653615},
		{-1, "ab", 867570405},
		{-impl.Modulus, "", 32762367},
		// a label counts by its bytes, not by its runes, and need not be valid text
		{5, "\u00e9", 323562},
		{-1, "\u00e9", 1110340655},
		{5, "\xff", 941231270},
		{5, "\x00", 686230505},
	}
	for _, c := range cases {
		if got := impl.DeriveFromString(c.key, c.label); got != c.want {
			t.Errorf("DeriveFromString(%d, %q) = %d, want %d", c.key, c.label, got, c.want)
		}
	}
}

// With these keys, the keyed hash of the label is 0, 1 and Modulus-1.
func TestDeriveFromStringNeverZero(t *testing.T) {
	cases := []struct {
		label           string
		zero, one, last int
	}{
		{"", 1310415589, 185075670, 288271861},
		{"ab", 916074962, 1778320862, 53829062},
		{"label", 971690925, 281353555, 1662028295},
		{"\xff\x00", 293453469, 1155699369, 1578691216},
	}
	for _, c := range cases {
		if h := impl.KeyedHash(c.zero, impl.BytesToInts([]byte(c.label))); h != 0 {
			t.Errorf("the keyed hash of %q with the key %d is %d, want 0", c.label, c.zero, h)
		}
		for _, key := range []int{c.zero, c.zero + impl.Modulus, c.zero - impl.Modulus, c.one} {
			if got := impl.DeriveFromString(key, c.label); got != 1 {
				t.Errorf("DeriveFromString(%d, %q) = %d, want 1", key, c.label, got)
			}
		}
		if got := impl.DeriveFromString(c.last, c.label); got != impl.Modulus-1 {
			t.Errorf("DeriveFromString(%d, %q) = %d, want Modulus-1", c.last, c.label, got)
		}
	}
}

// What is derived from any key and label is the keyed hash of the label's bytes, and a valid key.
func TestDeriveFromStringIsKeyedHash(t *testing.T) {
	for _, key := range someKeys {
		for _, text := range someTexts() {
			got := impl.DeriveFromString(key, string(text))
			if want := impl.KeyedHash(key, impl.BytesToInts(text)); got != want || !impl.IsValidKey(got) {
				t.Errorf("DeriveFromString(%d, %.20q) = %d, want %d", key, text, got, want)
			}
		}
	}
}

func TestEqualInts(t *testing.T) {
	cases := []struct {
		a, b []int
		want bool
	}{
		{nil, nil, true},
		{nil, []int{}, true},
		{[]int{}, []int{}, true},
		{nil, []int{0}, false},
		{[]int{5}, []int{5}, true},
		{[]int{5}, []int{-5}, false},
		{[]int{5, 300}, []int{5, 300}, true},
		{[]int{5, 300}, []int{300, 5}, false},
		{[]int{5, 300}, []int{5, 301}, false},
		{[]int{5, 300}, []int{6, 300}, false},
		{[]int{5, 300}, []int{5}, false},
		{[]int{5, 300}, []int{5, 300, 0}, false},
		{[]int{math.MinInt, math.MaxInt}, []int{math.MinInt, math.MaxInt}, true},
		{[]int{1}, []int{1 + 1<<32}, false},
	}
	for _, c := range cases {
		if impl.EqualInts(c.a, c.b) != c.want || impl.EqualInts(c.b, c.a) != c.want {
			t.Errorf("EqualInts of %v and %v is not %v in both orders", c.a, c.b, c.want)
		}
	}
}
