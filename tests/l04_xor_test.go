package tests

import (
	"bytes"
	"math"
	"slices"
	"testing"

	"loop.example/g00516/impl"
)

// mixed returns length bytes that differ from their neighbours; another start gives other bytes.
func mixed(length int, start int) []byte {
	b := []byte{}
	for i := range length {
		b = append(b, byte(start+i*37+i*i))
	}
	return b
}

// someStrings lists byte strings with and without zero bytes, with lengths about MaxLength and far beyond it.
func someStrings() [][]byte {
	return [][]byte{nil, {}, {0}, {1}, {255}, {3}, {1, 2}, {0, 0, 0}, {1, 2, 0}, {128, 127, 255, 0, 1},
		mixed(399, 1), mixed(400, 2), mixed(401, 3), mixed(1000, 4), make([]byte, 450)}
}

// someStringLists lists lists of byte strings, with empty and with nil elements at every place.
func someStringLists() [][][]byte {
	return [][][]byte{nil, {}, {nil}, {{}}, {nil, {}}, {{7}}, {{1, 2}, {3}}, {{3}, {1, 2}}, {{}, {7}}, {{7}, nil},
		{nil, {1, 2}, {}, {3}, nil}, {{1}, {2}, {4, 9}}, {{5, 6, 7}, {5, 6, 7}}, {{0}, {0, 0}},
		{mixed(401, 1), {9}, mixed(1000, 2)}, {{1}, {2}, {3}, {4}, {5}, {6}, {7}, {8}, {9}, {10, 11}},
		slices.Repeat([][]byte{{1, 2, 3}}, 501), someStrings()}
}

// referenceXor counts, for every bit, the elements in which it is set: their sum is odd where it is set in the result.
func referenceXor(list ...[]byte) []byte {
	counts := []int{}
	for _, element := range list {
		for i := range 8 * len(element) {
			if i == len(counts) {
				counts = append(counts, 0)
			}
			counts[i] += int(element[i/8]) >> (i % 8) & 1
		}
	}
	sum := make([]byte, len(counts)/8)
	for i, count := range counts {
		sum[i/8] += byte(count % 2 << (i % 8))
	}
	return sum
}

// extended returns a copy of b with zero bytes behind it up to this length.
func extended(b []byte, length int) []byte {
	longer := make([]byte, max(length, len(b)))
	copy(longer, b)
	return longer
}

// roomyList returns a list with the elements of list and spare capacity behind it and behind each
// element, and a function that tells whether all of it is as it was.
func roomyList[T byte | int](list [][]T) ([][]T, func() bool) {
	var whole [][]T
	var checks []func() bool
	add := func(element []T) {
		spare, unchanged := roomy(element)
		whole = append(whole, spare)
		checks = append(checks, unchanged)
	}
	for _, element := range list {
		add(element)
	}
	for range 20 {
		add([]T{0xa5})
	}
	before := slices.Clone(whole)
	return whole[:len(list)], func() bool {
		for i, element := range whole {
			same := len(element) == len(before[i]) && cap(element) == cap(before[i]) && &element[:1][0] == &before[i][:1][0]
			if !same || !checks[i]() {
				return false
			}
		}
		return true
	}
}

// checkFreshList fills the elements of result one by one, and then its places, and reports an error
// if an argument or another element changes by that.
func checkFreshList[T byte | int](t *testing.T, name string, result [][]T, unchanged func() bool) {
	t.Helper()
	var before [][]T
	for _, element := range result {
		before = append(before, slices.Clone(element[:cap(element)]))
	}
	for i, element := range result {
		checkFresh(t, name, element, unchanged)
		for j, other := range result {
			if j != i && !slices.Equal(other[:cap(other)], before[j]) {
				t.Fatalf("the elements %d and %d of the result of %s share memory", i, j, name)
			}
		}
		copy(element[:cap(element)], before[i])
	}
	whole := result[:cap(result)]
	for i := range whole {
		whole[i] = []T{0x5a}
	}
	if !unchanged() {
		t.Errorf("the result of %s shares its places with an argument", name)
	}
}

// checkCombiner reports an error if combine, which makes one byte string of a list, changes its
// argument, goes by the spare capacity, or returns memory of an argument.
func checkCombiner(t *testing.T, name string, combine func(list [][]byte) []byte) {
	t.Helper()
	for _, content := range someStringLists() {
		list, unchanged := roomyList(content)
		got := combine(list)
		if !bytes.Equal(got, combine(content)) {
			t.Errorf("%s of %d elements with spare capacity = %v", name, len(list), got)
		}
		checkFresh(t, name, got, unchanged)
	}
}

func TestMaxLength(t *testing.T) {
	if impl.MaxLength != 400 {
		t.Errorf("MaxLength is %d", impl.MaxLength)
	}
}

func TestXorBytes(t *testing.T) {
	cases := []struct{ a, b, want []byte }{
		{[]byte{1, 2}, []byte{3}, []byte{2, 2}},
		{nil, nil, nil},
		{nil, []byte{}, nil},
		{[]byte{}, []byte{}, nil},
		{nil, []byte{7}, []byte{7}},
		{[]byte{}, []byte{7, 0}, []byte{7, 0}},
		{nil, []byte{0, 0}, []byte{0, 0}},
		{[]byte{0}, []byte{0}, []byte{0}},
		{[]byte{0}, []byte{255}, []byte{255}},
		{[]byte{255}, []byte{255}, []byte{0}},
		{[]byte{170}, []byte{85}, []byte{255}},
		{[]byte{128}, []byte{129}, []byte{1}},
		{[]byte{5, 6, 7}, []byte{5, 6, 7}, []byte{0, 0, 0}},
		{[]byte{5, 6, 7}, []byte{7, 6, 5}, []byte{2, 0, 2}},
		// the result is as long as the longer argument, whatever the bytes are
		{[]byte{5, 6, 7}, []byte{5, 6}, []byte{0, 0, 7}},
		{[]byte{1, 0, 0}, []byte{1}, []byte{0, 0, 0}},
		{[]byte{1}, []byte{2, 4, 8, 16}, []byte{3, 4, 8, 16}},
	}
	for _, c := range cases {
		if got := impl.XorBytes(c.a, c.b); !bytes.Equal(got, c.want) {
			t.Errorf("XorBytes(%v, %v) = %v, want %v", c.a, c.b, got, c.want)
		}
		if got := impl.XorBytes(c.b, c.a); !bytes.Equal(got, c.want) {
			t.Errorf("XorBytes(%v, %v) = %v, want %v", c.b, c.a, got, c.want)
		}
	}
}

// The exclusive or of all pairs of bytes, in two strings far longer than MaxLength.
func TestXorBytesOfEveryPair(t *testing.T) {
	var a, b []byte
	for i := range 256 * 256 {
		a = append(a, byte(i/256))
		b = append(b, byte(i%256))
	}
	if got := impl.XorBytes(a, b); !bytes.Equal(got, referenceXor(a, b)) {
		t.Errorf("XorBytes of all pairs of bytes has %d bytes and is wrong", len(got))
	}
}

// Whoever adds a byte string twice has added nothing but zero bytes behind the shorter one.
func TestXorBytesIsItsOwnInverse(t *testing.T) {
	for _, a := range someStrings() {
		for _, b := range someStrings() {
			sum := impl.XorBytes(a, b)
			if !bytes.Equal(sum, referenceXor(a, b)) || len(sum) != max(len(a), len(b)) {
				t.Errorf("XorBytes(%v, %v) = %v", a, b, sum)
			}
			if got := impl.XorBytes(sum, b); !bytes.Equal(got, extended(a, len(b))) {
				t.Errorf("%v with %v added twice is %v", a, b, got)
			}
			if got := impl.XorBytes(a, sum); !bytes.Equal(got, extended(b, len(a))) {
				t.Errorf("%v added to its sum with %v is %v", a, b, got)
			}
		}
		if got := impl.XorBytes(a, a); !bytes.Equal(got, make([]byte, len(a))) {
			t.Errorf("XorBytes of %v with itself = %v", a, got)
		}
	}
}

func TestXorBytesCopies(t *testing.T) {
	for _, first := range [][]byte{{}, {7}, {1, 2, 3}, mixed(500, 1)} {
		for _, second := range [][]byte{{}, {8}, {4, 5, 6}, mixed(450, 2)} {
			a, unchangedA := roomy(first)
			b, unchangedB := roomy(second)
			unchanged := func() bool { return unchangedA() && unchangedB() }
			got := impl.XorBytes(a, b)
			if !bytes.Equal(got, referenceXor(first, second)) {
				t.Errorf("XorBytes(%v, %v) with spare capacity = %v", a, b, got)
			}
			checkFresh(t, "XorBytes", got, unchanged)
		}
	}
	// both arguments may be the same memory
	b, unchanged := roomy([]byte{1, 2, 3, 4})
	if got := impl.XorBytes(b[:2], b[1:4]); !bytes.Equal(got, []byte{3, 1, 4}) || !unchanged() {
		t.Errorf("XorBytes of parts of one slice = %v", got)
	}
}

func TestXorAll(t *testing.T) {
	cases := []struct {
		list [][]byte
		want []byte
	}{
		{nil, nil},
		{[][]byte{}, nil},
		{[][]byte{nil}, nil},
		{[][]byte{{}, nil, {}}, nil},
		{[][]byte{{7}}, []byte{7}},
		{[][]byte{{7, 0}}, []byte{7, 0}},
		{[][]byte{{1, 2}, {3}}, []byte{2, 2}},
		{[][]byte{{1}, {2}, {4, 9}}, []byte{7, 9}},
		{[][]byte{{4, 9}, {2}, {1}}, []byte{7, 9}},
		{[][]byte{{1}, {4, 9}, {2}}, []byte{7, 9}},
		{[][]byte{nil, {7}, {}, {8, 1}, nil}, []byte{15, 1}},
		{[][]byte{{5}, {5}}, []byte{0}},
		{[][]byte{{5}, {5}, {5}}, []byte{5}},
		{[][]byte{{0, 0, 0}, {1}}, []byte{1, 0, 0}},
		{[][]byte{{5, 6, 7}, {5, 6, 7}, {}}, []byte{0, 0, 0}},
	}
	for _, c := range cases {
		if got := impl.XorAll(c.list); !bytes.Equal(got, c.want) {
			t.Errorf("XorAll(%v) = %v, want %v", c.list, got, c.want)
		}
	}
}

// The order of the elements does not matter, and all of them added twice are zero bytes.
func TestXorAllIsItsOwnInverse(t *testing.T) {
	for _, list := range someStringLists() {
		sum := impl.XorAll(list)
		if !bytes.Equal(sum, referenceXor(list...)) {
			t.Errorf("XorAll of %d elements = %v, want %v", len(list), sum, referenceXor(list...))
		}
		folded := []byte{}
		for _, element := range list {
			folded = impl.XorBytes(folded, element)
		}
		if !bytes.Equal(sum, folded) {
			t.Errorf("XorAll of %d elements = %v, but XorBytes of them gives %v", len(list), sum, folded)
		}
		reversed := slices.Clone(list)
		slices.Reverse(reversed)
		if got := impl.XorAll(reversed); !bytes.Equal(got, sum) {
			t.Errorf("XorAll of %d elements in reverse order = %v, want %v", len(list), got, sum)
		}
		if got := impl.XorAll(slices.Concat(list, reversed)); !bytes.Equal(got, make([]byte, len(sum))) {
			t.Errorf("XorAll of %d elements, each of them twice, = %v", len(list), got)
		}
	}
}

// Without one element, the sum and all other elements give that element back.
func TestXorAllGivesOneBack(t *testing.T) {
	list := [][]byte{{1, 2, 3}, mixed(10, 7), nil, {255, 255}, mixed(500, 9)}
	sum := impl.XorAll(list)
	for i, missing := range list {
		others := slices.Concat(list[:i], list[i+1:], [][]byte{sum})
		if got := impl.XorAll(others); !bytes.Equal(got, extended(missing, len(sum))) {
			t.Errorf("XorAll of the sum and all elements but %v = %v", missing, got)
		}
	}
}

func TestXorAllCopies(t *testing.T) {
	checkCombiner(t, "XorAll", impl.XorAll)
}

func TestIsZeroBytes(t *testing.T) {
	for _, length := range []int{0, 1, 2, 3, 8, 399, 400, 401, 1000} {
		b := make([]byte, length)
		if !impl.IsZeroBytes(b) {
			t.Errorf("IsZeroBytes of %d zero bytes is false", length)
		}
		for i := range b {
			for _, c := range []byte{1, 2, 127, 128, 255} {
				b[i] = c
				if impl.IsZeroBytes(b) {
					t.Errorf("IsZeroBytes is true, although byte %d of %d is %d", i, length, c)
				}
			}
			b[i] = 0
		}
	}
	if !impl.IsZeroBytes(nil) || !impl.IsZeroBytes([]byte{}) {
		t.Error("IsZeroBytes of no bytes is false")
	}
	// two bytes whose sum wraps around to 0
	if impl.IsZeroBytes([]byte{128, 128}) || impl.IsZeroBytes([]byte{1, 255}) || impl.IsZeroBytes([]byte{5, 5}) {
		t.Error("IsZeroBytes of bytes that cancel each other is true")
	}
}

func TestIsZeroBytesLeavesArgument(t *testing.T) {
	for _, content := range [][]byte{{}, {0}, {0, 0, 0}, {0, 1}, {1, 0}} {
		b, unchanged := roomy(content)
		if impl.IsZeroBytes(b) != impl.IsZeroBytes(content) || !unchanged() {
			t.Errorf("IsZeroBytes(%v) depends on the spare capacity or changes its argument", content)
		}
	}
}

func TestPadTo(t *testing.T) {
	for _, b := range someStrings() {
		for _, length := range []int{0, 1, 2, 3, 4, 5, 6, 100, 398, 399, impl.MaxLength} {
			if got := impl.PadTo(b, length); !bytes.Equal(got, extended(b, length)) {
				t.Errorf("PadTo(%v, %d) = %v, want %v", b, length, got, extended(b, length))
			}
		}
	}
	cases := []struct {
		b      []byte
		length int
		want   []byte
	}{
		{[]byte{1}, 4, []byte{1, 0, 0, 0}},
		{[]byte{1, 2}, 1, []byte{1, 2}},
		{[]byte{1, 2}, 2, []byte{1, 2}},
		{[]byte{1, 2}, 3, []byte{1, 2, 0}},
		{[]byte{1, 2}, 0, []byte{1, 2}},
		{nil, 0, nil},
		{nil, 2, []byte{0, 0}},
		{[]byte{}, 1, []byte{0}},
	}
	for _, c := range cases {
		if got := impl.PadTo(c.b, c.length); !bytes.Equal(got, c.want) {
			t.Errorf("PadTo(%v, %d) = %v, want %v", c.b, c.length, got, c.want)
		}
	}
}

// badLengths lists numbers that are neither a length for PadTo nor a size for SplitBytes.
var badLengths = []int{-1, -2, -impl.MaxLength, -impl.MaxLength - 1, impl.MaxLength + 1, impl.MaxLength + 2, 1000, 1001,
	impl.MaxValue, -impl.MaxValue, 1 << 32, 1<<32 + 2, -1 << 32, 1 << 62, math.MaxInt, math.MaxInt - 1, math.MinInt, math.MinInt + 1}

func TestPadToOutOfRange(t *testing.T) {
	for _, b := range someStrings() {
		for _, length := range badLengths {
			if got := impl.PadTo(b, length); !bytes.Equal(got, b) {
				t.Errorf("PadTo(%v, %d) = %v, want a copy unchanged", b, length, got)
			}
		}
	}
}

func TestPadToCopies(t *testing.T) {
	for _, content := range [][]byte{{}, {7}, {1, 2, 3}, mixed(400, 1), mixed(401, 2)} {
		for _, length := range append([]int{0, 1, 2, 3, 4, 150, impl.MaxLength}, badLengths...) {
			b, unchanged := roomy(content)
			got := impl.PadTo(b, length)
			// the bytes behind the argument are not zero, and those behind it in the result are
			if !bytes.Equal(got, impl.PadTo(content, length)) {
				t.Errorf("PadTo(%v, %d) with spare capacity = %v", content, length, got)
			}
			checkFresh(t, "PadTo", got, unchanged)
		}
	}
}

func TestSplitBytes(t *testing.T) {
	cases := []struct {
		b    []byte
		size int
		want []string
	}{
		{[]byte("hello"), 1, []string{"h", "e", "l", "l", "o"}},
		{[]byte("hello"), 2, []string{"he", "ll", "o"}},
		{[]byte("hello"), 3, []string{"hel", "lo"}},
		{[]byte("hello"), 4, []string{"hell", "o"}},
		{[]byte("hello"), 5, []string{"hello"}},
		{[]byte("hello"), 6, []string{"hello"}},
		{[]byte("hello"), impl.MaxLength, []string{"hello"}},
		{[]byte("hell"), 2, []string{"he", "ll"}},
		{[]byte("h"), 1, []string{"h"}},
		{[]byte{0, 0, 0}, 2, []string{"\x00\x00", "\x00"}},
		// there is no piece of no bytes
		{nil, 1, nil},
		{nil, impl.MaxLength, nil},
		{[]byte{}, 2, nil},
	}
	for _, c := range cases {
		got := impl.SplitBytes(c.b, c.size)
		same := slices.EqualFunc(got, c.want, func(piece []byte, want string) bool { return string(piece) == want })
		if !same {
			t.Errorf("SplitBytes(%q, %d) = %q, want %q", c.b, c.size, got, c.want)
		}
	}
}

// All pieces but the last one have the given size, the last one has at least one byte, and together they are the bytes.
func TestSplitBytesInOrder(t *testing.T) {
	texts := someStrings()
	for length := range 30 {
		texts = append(texts, mixed(length, length))
	}
	texts = append(texts, mixed(799, 1), mixed(800, 2), mixed(801, 3), mixed(2000, 4))
	for _, b := range texts {
		for _, size := range []int{1, 2, 3, 4, 7, 10, 29, 100, 399, impl.MaxLength} {
			list := impl.SplitBytes(b, size)
			if want := (len(b) + size - 1) / size; len(list) != want {
				t.Errorf("SplitBytes of %d bytes with the size %d has %d pieces, want %d", len(b), size, len(list), want)
			}
			for i, piece := range list {
				start := min(i*size, len(b))
				if want := b[start:min(start+size, len(b))]; !bytes.Equal(piece, want) || len(piece) == 0 {
					t.Errorf("piece %d of %d bytes with the size %d is %v, want %v", i, len(b), size, piece, want)
				}
			}
			if got := impl.JoinBytes(list); !bytes.Equal(got, b) {
				t.Errorf("JoinBytes of the pieces of %d bytes with the size %d = %v, want %v", len(b), size, got, b)
			}
		}
	}
}

func TestSplitBytesOutOfRange(t *testing.T) {
	for _, b := range someStrings() {
		for _, size := range append([]int{0}, badLengths...) {
			if got := impl.SplitBytes(b, size); len(got) != 0 {
				t.Errorf("SplitBytes of %d bytes with the size %d has %d pieces, want none", len(b), size, len(got))
			}
		}
	}
}

func TestSplitBytesCopies(t *testing.T) {
	for _, content := range [][]byte{{}, {7}, {1, 2, 3, 4}, {1, 2, 3, 4, 5}, mixed(401, 1)} {
		for _, size := range []int{0, 1, 2, 3, 100, impl.MaxLength, impl.MaxLength + 1, -1} {
			b, unchanged := roomy(content)
			got := impl.SplitBytes(b, size)
			// the bytes in the spare capacity do not make the last piece longer
			if !slices.EqualFunc(got, impl.SplitBytes(content, size), bytes.Equal) {
				t.Errorf("SplitBytes(%v, %d) with spare capacity = %v", content, size, got)
			}
			checkFreshList(t, "SplitBytes", got, unchanged)
		}
	}
}

func TestJoinBytes(t *testing.T) {
	cases := []struct {
		list [][]byte
		want []byte
	}{
		{nil, nil},
		{[][]byte{}, nil},
		{[][]byte{nil}, nil},
		{[][]byte{{}, nil, {}}, nil},
		{[][]byte{{7}}, []byte{7}},
		{[][]byte{{0}, {0, 0}}, []byte{0, 0, 0}},
		{[][]byte{{1, 2}, {3}}, []byte{1, 2, 3}},
		{[][]byte{{3}, {1, 2}}, []byte{3, 1, 2}},
		{[][]byte{{5}, {5}}, []byte{5, 5}},
		{[][]byte{nil, {1}, {}, nil, {2, 3}, {}, {4}, nil}, []byte{1, 2, 3, 4}},
		{[][]byte{mixed(400, 1), mixed(401, 2), {9}}, append(append(mixed(400, 1), mixed(401, 2)...), 9)},
	}
	for _, c := range cases {
		if got := impl.JoinBytes(c.list); !bytes.Equal(got, c.want) {
			t.Errorf("JoinBytes(%v) = %v, want %v", c.list, got, c.want)
		}
	}
}

// JoinBytes has no limit of elements or bytes.
func TestJoinBytesMany(t *testing.T) {
	var list [][]byte
	var want []byte
	for i := range 2000 {
		list = append(list, mixed(i%50, i))
		want = append(want, mixed(i%50, i)...)
	}
	if got := impl.JoinBytes(list); !bytes.Equal(got, want) {
		t.Errorf("JoinBytes of %d elements has %d bytes, want %d", len(list), len(got), len(want))
	}
}

func TestJoinBytesCopies(t *testing.T) {
	checkCombiner(t, "JoinBytes", impl.JoinBytes)
}

func TestEqualLists(t *testing.T) {
	cases := []struct {
		a, b [][]byte
		want bool
	}{
		{nil, nil, true},
		{nil, [][]byte{}, true},
		{[][]byte{}, [][]byte{}, true},
		{[][]byte{nil}, [][]byte{{}}, true},
		{[][]byte{{1}, nil, {2}}, [][]byte{{1}, {}, {2}}, true},
		{[][]byte{{1, 2}, {3}}, [][]byte{{1, 2}, {3}}, true},
		// the number of elements counts, also of empty ones
		{nil, [][]byte{nil}, false},
		{nil, [][]byte{{}}, false},
		{[][]byte{nil}, [][]byte{nil, {}}, false},
		{[][]byte{{1, 2}, {3}}, [][]byte{{1, 2}, {3}, {}}, false},
		{[][]byte{{1, 2}, {3}}, [][]byte{{1, 2}}, false},
		{[][]byte{{1, 2}, {3}}, [][]byte{{3}}, false},
		// so do their places and their ends
		{[][]byte{{1, 2}, {3}}, [][]byte{{3}, {1, 2}}, false},
		{[][]byte{{1, 2}, {3}}, [][]byte{{1}, {2, 3}}, false},
		{[][]byte{{1, 2, 3}}, [][]byte{{1, 2}, {3}}, false},
		{[][]byte{{1}, nil}, [][]byte{nil, {1}}, false},
		// and every byte of theirs
		{[][]byte{{1, 2}, {3}}, [][]byte{{1, 2}, {4}}, false},
		{[][]byte{{1, 2}, {3}}, [][]byte{{0, 2}, {3}}, false},
		{[][]byte{{1, 2}, {3}}, [][]byte{{1, 2, 0}, {3}}, false},
		{[][]byte{{1, 2}, {3}}, [][]byte{{1, 2}, {3, 0}}, false},
		{[][]byte{{0}}, [][]byte{nil}, false},
		{[][]byte{{128}}, [][]byte{{0}}, false},
	}
	for _, c := range cases {
		if impl.EqualLists(c.a, c.b) != c.want || impl.EqualLists(c.b, c.a) != c.want {
			t.Errorf("EqualLists of %v and %v is not %v in both orders", c.a, c.b, c.want)
		}
	}
}

// A change of one byte anywhere makes lists of long elements unequal.
func TestEqualListsOfLongElements(t *testing.T) {
	a := [][]byte{mixed(401, 1), {}, mixed(1000, 2)}
	b := [][]byte{mixed(401, 1), nil, mixed(1000, 2)}
	if !impl.EqualLists(a, b) || !impl.EqualLists(a, a) {
		t.Error("EqualLists of equal lists with long elements is false")
	}
	for _, element := range b {
		for i := range element {
			element[i] ^= 128
			if impl.EqualLists(a, b) {
				t.Errorf("EqualLists is true, although byte %d of %d differs", i, len(element))
			}
			element[i] ^= 128
		}
	}
}

func TestEqualListsLeavesArguments(t *testing.T) {
	lists := someStringLists()
	for i, first := range lists {
		for _, second := range [][][]byte{first, lists[(i+1)%len(lists)]} {
			a, unchangedA := roomyList(first)
			b, unchangedB := roomyList(second)
			if impl.EqualLists(a, b) != impl.EqualLists(first, second) || !unchangedA() || !unchangedB() {
				t.Errorf("EqualLists of %d and %d elements depends on spare capacity or changes an argument", len(a), len(b))
			}
		}
	}
}
