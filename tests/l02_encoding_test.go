package tests

import (
	"bytes"
	"math"
	"slices"
	"testing"

	"loop.example/g00516/impl"
)

// varints lists integers with their varints: the first and the last one of every length.
var varints = []struct {
	n    int
	code []byte
}{
	{0, []byte{0}},
	{1, []byte{1}},
	{5, []byte{5}},
	{127, []byte{127}},
	{128, []byte{128, 1}},
	{129, []byte{129, 1}},
	{255, []byte{255, 1}},
	{256, []byte{128, 2}},
	{300, []byte{172, 2}},
	{16383, []byte{255, 127}},
	{16384, []byte{128, 128, 1}},
	{2097151, []byte{255, 255, 127}},
	{2097152, []byte{128, 128, 128, 1}},
	{268435455, []byte{255, 255, 255, 127}},
	{268435456, []byte{128, 128, 128, 128, 1}},
	{4294967296, []byte{128, 128, 128, 128, 16}},
	{34359738367, []byte{255, 255, 255, 255, 127}},
	{34359738368, []byte{128, 128, 128, 128, 128, 1}},
	{impl.MaxValue - 1, []byte{255, 159, 148, 165, 141, 29}},
	{impl.MaxValue, []byte{128, 160, 148, 165, 141, 29}},
}

// notEncoded lists integers that have no varint.
var notEncoded = []int{-1, -127, -128, -300, -impl.MaxValue, impl.MaxValue + 1, impl.MaxValue + 128,
	1 << 42, 1 << 62, math.MaxInt, math.MinInt, math.MinInt + 1}

// notVarints lists inputs that start with no valid varint.
var notVarints = []struct {
	name string
	code []byte
}{
	{"empty", nil},
	{"ends after 1 group", []byte{128}},
	{"ends after 1 full group", []byte{255}},
	{"ends after 2 groups", []byte{172, 130}},
	{"ends after 5 groups", []byte{128, 128, 128, 128, 128}},
	{"ends after 6 groups", []byte{128, 128, 128, 128, 128, 128}},
	{"zero in 2 groups", []byte{128, 0}},
	{"127 in 2 groups", []byte{255, 0}},
	{"300 in 3 groups", []byte{172, 130, 0}},
	{"zero in 3 groups", []byte{128, 128, 0}},
	{"zero in 6 groups", []byte{128, 128, 128, 128, 128, 0}},
	{"5 groups and a zero", []byte{255, 255, 255, 255, 255, 0}},
	{"7 groups", []byte{128, 128, 128, 128, 128, 128, 1}},
	{"7 groups, last one zero", []byte{128, 128, 128, 128, 128, 128, 0}},
	{"7 groups, small if the last one is ignored", []byte{129, 128, 128, 128, 128, 129, 1}},
	{"10 groups", []byte{128, 128, 128, 128, 128, 128, 128, 128, 128, 1}},
	{"11 groups, small after wraparound", []byte{129, 128, 128, 128, 128, 128, 128, 128, 128, 128, 1}},
	{"100 groups", append(bytes.Repeat([]byte{255}, 99), 1)},
	{"MaxValue+1", []byte{129, 160, 148, 165, 141, 29}},
	{"MaxValue+128", []byte{128, 161, 148, 165, 141, 29}},
	{"MaxValue+1<<35", []byte{128, 160, 148, 165, 141, 30}},
	{"largest in 6 groups", []byte{255, 255, 255, 255, 255, 127}},
}

// roomy returns a slice with the content of list and spare capacity, and a function that tells
// whether content and spare capacity are as they were.
func roomy[T byte | int](list []T) ([]T, func() bool) {
	whole := append(slices.Clone(list), slices.Repeat([]T{0xa5}, 200)...)
	before := slices.Clone(whole)
	return whole[:len(list)], func() bool { return slices.Equal(whole, before) }
}

// checkFresh fills result and its spare capacity and reports an error if an argument changes by that.
func checkFresh[T byte | int](t *testing.T, name string, result []T, unchanged func() bool) {
	t.Helper()
	if !unchanged() {
		t.Errorf("%s changes its argument or the spare capacity behind it", name)
	}
	whole := result[:cap(result)]
	for i := range whole {
		whole[i] ^= 0x5a
	}
	if !unchanged() {
		t.Errorf("the result of %s shares memory with an argument", name)
	}
}

// checkAgain writes over a result and its spare capacity and reports an error if a later call returns
// something else.
func checkAgain[T byte | int](t *testing.T, name string, call func() []T) {
	t.Helper()
	first := call()
	before := slices.Clone(first)
	whole := first[:cap(first)]
	for i := range whole {
		whole[i] = 77
	}
	if got := call(); !slices.Equal(got, before) {
		t.Errorf("%s is %v after an earlier result was written to, want %v", name, got, before)
	}
}

func TestAppendUvarint(t *testing.T) {
	for _, c := range varints {
		for _, prefix := range [][]byte{nil, {}, {9}, {128}, {1, 2, 3}} {
			want := append(slices.Clone(prefix), c.code...)
			if got := impl.AppendUvarint(prefix, c.n); !bytes.Equal(got, want) {
				t.Errorf("AppendUvarint(%v, %d) = %v, want %v", prefix, c.n, got, want)
			}
		}
	}
}

func TestAppendUvarintOutOfRange(t *testing.T) {
	for _, n := range notEncoded {
		for _, prefix := range [][]byte{nil, {}, {9}, {128}, {1, 2, 3}} {
			if got := impl.AppendUvarint(prefix, n); !bytes.Equal(got, prefix) {
				t.Errorf("AppendUvarint(%v, %d) = %v, want a copy unchanged", prefix, n, got)
			}
		}
	}
}

func TestAppendUvarintCopies(t *testing.T) {
	for _, n := range []int{0, 127, 300, impl.MaxValue, -1, impl.MaxValue + 1} {
		for _, content := range [][]byte{{}, {7}, {1, 2, 3}} {
			b, unchanged := roomy(content)
			checkFresh(t, "AppendUvarint", impl.AppendUvarint(b, n), unchanged)
		}
	}
}

// Two results made from one slice do not overwrite each other.
func TestAppendUvarintTwice(t *testing.T) {
	b, _ := roomy([]byte{7})
	first := impl.AppendUvarint(b, 1)
	second := impl.AppendUvarint(b, 2)
	if !bytes.Equal(first, []byte{7, 1}) || !bytes.Equal(second, []byte{7, 2}) {
		t.Errorf("two varints appended to one slice: %v and %v", first, second)
	}
}

func TestReadUvarint(t *testing.T) {
	for _, c := range varints {
		for _, prefix := range [][]byte{nil, {9}, {128, 0}, {255, 255, 255}} {
			for _, rest := range [][]byte{nil, {0}, {1}, {128}, {255, 255}} {
				b := slices.Concat(prefix, c.code, rest)
				n, next, ok := impl.ReadUvarint(b, len(prefix))
				if n != c.n || next != len(prefix)+len(c.code) || !ok {
					t.Errorf("ReadUvarint(%v, %d) = %d, %d, %v, want %d, %d, true",
						b, len(prefix), n, next, ok, c.n, len(prefix)+len(c.code))
				}
			}
		}
	}
}

// rejectUvarint reports an error unless ReadUvarint returns 0, 0 and false.
func rejectUvarint(t *testing.T, name string, b []byte, offset int) {
	t.Helper()
	if n, next, ok := impl.ReadUvarint(b, offset); n != 0 || next != 0 || ok {
		t.Errorf("%s: ReadUvarint(%v, %d) = %d, %d, %v, want 0, 0, false", name, b, offset, n, next, ok)
	}
}

func TestReadUvarintRejects(t *testing.T) {
	for _, c := range notVarints {
		rejectUvarint(t, c.name, c.code, 0)
		for _, prefix := range [][]byte{{5}, {172, 2}, {1, 2, 3}} {
			rejectUvarint(t, c.name, slices.Concat(prefix, c.code), len(prefix))
		}
	}
}

// Every proper prefix of a varint ends inside it, whatever the capacity behind it holds.
func TestReadUvarintEndsInside(t *testing.T) {
	for _, c := range varints {
		for length := range c.code {
			rejectUvarint(t, "prefix", c.code[:length], 0)
		}
	}
}

// badOffsets lists offsets at which no byte of a slice with this length is.
func badOffsets(length int) []int {
	return []int{length, length + 1, length + 1000, -1, -2, -length - 1, -impl.MaxValue, impl.MaxValue,
		math.MaxInt, math.MaxInt - 1, math.MinInt, math.MinInt + 1, 1 << 32, -1 << 32}
}

func TestReadUvarintOffset(t *testing.T) {
	for _, b := range [][]byte{nil, {}, {5}, {172, 2}, {1, 2, 3, 4}} {
		spare, _ := roomy(b)
		for _, offset := range badOffsets(len(b)) {
			rejectUvarint(t, "offset out of range", b, offset)
			rejectUvarint(t, "offset in the spare capacity", spare, offset)
		}
	}
	// inside a varint, its remaining groups are one too
	if n, next, ok := impl.ReadUvarint([]byte{172, 2}, 1); n != 2 || next != 2 || !ok {
		t.Errorf("ReadUvarint at the second group = %d, %d, %v", n, next, ok)
	}
}

// Of the inputs of up to two bytes, exactly the encodings of AppendUvarint are accepted.
func TestReadUvarintShortInputs(t *testing.T) {
	valid := map[string]int{}
	for n := range 1 << 14 {
		valid[string(impl.AppendUvarint(nil, n))] = n
	}
	check := func(b []byte, used int) {
		want, known := valid[string(b[:used])]
		if !known {
			rejectUvarint(t, "short input", b, 0)
			return
		}
		if n, next, ok := impl.ReadUvarint(b, 0); n != want || next != used || !ok {
			t.Errorf("ReadUvarint(%v, 0) = %d, %d, %v, want %d, %d, true", b, n, next, ok, want, used)
		}
	}
	for first := range 256 {
		check([]byte{byte(first)}, 1)
		for second := range 256 {
			used := 1
			if first >= 128 {
				used = 2
			}
			check([]byte{byte(first), byte(second)}, used)
		}
	}
}

// ReadUvarint inverts AppendUvarint in the range 0 to MaxValue.
func TestUvarintRoundTrip(t *testing.T) {
	check := func(n int) {
		b := impl.AppendUvarint([]byte{200}, n)
		if n < 0 || n > impl.MaxValue {
			if len(b) != 1 {
				t.Errorf("AppendUvarint appends %v for %d", b[1:], n)
			}
			return
		}
		if got, next, ok := impl.ReadUvarint(b, 1); got != n || next != len(b) || !ok {
			t.Errorf("ReadUvarint(%v, 1) = %d, %d, %v, want %d", b, got, next, ok, n)
		}
	}
	for n := -300; n <= 20000; n++ {
		check(n)
		check(n * 50000021)
		check(impl.MaxValue - n)
	}
	for shift := range 63 {
		for _, n := range []int{1<<shift - 1, 1 << shift, 1<<shift + 1} {
			check(n)
			check(-n)
		}
	}
}

func TestAppendBytes(t *testing.T) {
	long := bytes.Repeat([]byte{77}, 300)
	cases := []struct{ b, data, want []byte }{
		{nil, nil, []byte{0}},
		{nil, []byte{}, []byte{0}},
		{[]byte{1}, nil, []byte{1, 0}},
		{nil, []byte{7, 8}, []byte{2, 7, 8}},
		{[]byte{1}, []byte{7, 8}, []byte{1, 2, 7, 8}},
		{[]byte{128, 0}, []byte{0}, []byte{128, 0, 1, 0}},
		{nil, long[:127], append([]byte{127}, long[:127]...)},
		{nil, long[:128], append([]byte{128, 1}, long[:128]...)},
		{[]byte{3}, long, append([]byte{3, 172, 2}, long...)},
	}
	for _, c := range cases {
		if got := impl.AppendBytes(c.b, c.data); !bytes.Equal(got, c.want) {
			t.Errorf("AppendBytes(%v, %v) = %v, want %v", c.b, c.data, got, c.want)
		}
	}
}

func TestAppendBytesCopies(t *testing.T) {
	for _, content := range [][]byte{{}, {7}, {1, 2, 3}} {
		for _, text := range [][]byte{{}, {8}, bytes.Repeat([]byte{4}, 130)} {
			b, unchangedB := roomy(content)
			data, unchangedData := roomy(text)
			unchanged := func() bool { return unchangedB() && unchangedData() }
			checkFresh(t, "AppendBytes", impl.AppendBytes(b, data), unchanged)
		}
	}
	// both arguments may be the same memory
	b, unchanged := roomy([]byte{1, 2, 3, 4})
	if got := impl.AppendBytes(b[:2], b[1:4]); !bytes.Equal(got, []byte{1, 2, 3, 2, 3, 4}) || !unchanged() {
		t.Errorf("AppendBytes of parts of one slice = %v", got)
	}
}

func TestReadBytes(t *testing.T) {
	long := bytes.Repeat([]byte{77}, 300)
	for _, data := range [][]byte{{}, {0}, {7}, {7, 8}, {128, 0}, long[:127], long[:128], long} {
		for _, prefix := range [][]byte{nil, {9}, {128, 0, 255}} {
			for _, rest := range [][]byte{nil, {0}, {255, 255}} {
				b := slices.Concat(impl.AppendBytes(prefix, data), rest)
				end := len(b) - len(rest)
				for _, maxLen := range []int{len(data), len(data) + 1, 1000, impl.MaxValue, impl.MaxValue + 1, math.MaxInt} {
					got, next, ok := impl.ReadBytes(b, len(prefix), maxLen)
					if !bytes.Equal(got, data) || next != end || !ok {
						t.Errorf("ReadBytes(%v, %d, %d) = %v, %d, %v, want %v, %d, true",
							b, len(prefix), maxLen, got, next, ok, data, end)
					}
				}
			}
		}
	}
}

// rejectBytes reports an error unless ReadBytes returns an empty slice, 0 and false.
func rejectBytes(t *testing.T, name string, b []byte, offset int, maxLen int) {
	t.Helper()
	if data, next, ok := impl.ReadBytes(b, offset, maxLen); len(data) != 0 || next != 0 || ok {
		t.Errorf("%s: ReadBytes(%v, %d, %d) = %v, %d, %v, want an empty slice, 0, false",
			name, b, offset, maxLen, data, next, ok)
	}
}

func TestReadBytesTooLong(t *testing.T) {
	for _, data := range [][]byte{{}, {7}, {7, 8}, bytes.Repeat([]byte{77}, 130)} {
		b := impl.AppendBytes([]byte{1}, data)
		for _, maxLen := range []int{len(data) - 1, -1, -2, -impl.MaxValue, math.MinInt} {
			rejectBytes(t, "length beyond maxLen", b, 1, maxLen)
		}
	}
}

func TestReadBytesTooShort(t *testing.T) {
	b := impl.AppendBytes([]byte{1}, bytes.Repeat([]byte{77}, 130))
	for length := range b {
		// the missing bytes are in the capacity behind the input, where they do not count
		rejectBytes(t, "input too short", b[:length], 1, 1000)
	}
	for _, limit := range []int{5, impl.MaxValue, math.MaxInt} {
		rejectBytes(t, "1 byte missing", []byte{3, 7, 8}, 0, limit)
		rejectBytes(t, "all bytes missing", []byte{1}, 0, limit)
	}
	for _, limit := range []int{impl.MaxValue, math.MaxInt} {
		rejectBytes(t, "length MaxValue", append(impl.AppendUvarint(nil, impl.MaxValue), 7, 8), 0, limit)
	}
}

func TestReadBytesWithoutLength(t *testing.T) {
	for _, c := range notVarints {
		rejectBytes(t, c.name, c.code, 0, math.MaxInt)
		rejectBytes(t, c.name, slices.Concat([]byte{5}, c.code), 1, 1000)
	}
	rejectBytes(t, "length 2 in two groups", []byte{130, 0, 7, 8}, 0, 10)
	rejectBytes(t, "length 0 in two groups", []byte{128, 0}, 0, 10)
	rejectBytes(t, "length MaxValue+1", []byte{129, 160, 148, 165, 141, 29, 7}, 0, math.MaxInt)
	for _, b := range [][]byte{nil, {}, {0}, {1, 7}, {2, 7, 8}} {
		spare, _ := roomy(b)
		for _, offset := range badOffsets(len(b)) {
			rejectBytes(t, "offset out of range", b, offset, 10)
			rejectBytes(t, "offset in the spare capacity", spare, offset, 1000)
		}
	}
}

func TestReadBytesCopies(t *testing.T) {
	for _, data := range [][]byte{{}, {7}, {7, 8, 9}} {
		b, unchanged := roomy(append(impl.AppendBytes([]byte{1}, data), 5, 6))
		got, _, ok := impl.ReadBytes(b, 1, 10)
		if !ok {
			t.Fatalf("ReadBytes(%v, 1, 10) is rejected", b)
		}
		checkFresh(t, "ReadBytes", got, unchanged)
		rejected, _, _ := impl.ReadBytes(b, 1, len(data)-1)
		checkFresh(t, "a rejecting ReadBytes", rejected, unchanged)
	}
}

func TestEncodeInts(t *testing.T) {
	cases := []struct {
		values []int
		want   []byte
	}{
		{nil, nil},
		{[]int{}, nil},
		{[]int{0}, []byte{0}},
		{[]int{5, 300}, []byte{5, 172, 2}},
		{[]int{300, 5}, []byte{172, 2, 5}},
		{[]int{0, 127, 128}, []byte{0, 127, 128, 1}},
		{[]int{impl.MaxValue, 0}, []byte{128, 160, 148, 165, 141, 29, 0}},
		{[]int{-1}, nil},
		{[]int{impl.MaxValue + 1, -300}, nil},
		{[]int{-1, 5, impl.MaxValue + 1, 300, math.MinInt, 0, math.MaxInt}, []byte{5, 172, 2, 0}},
	}
	for _, c := range cases {
		before := slices.Clone(c.values)
		if got := impl.EncodeInts(c.values); !bytes.Equal(got, c.want) {
			t.Errorf("EncodeInts(%v) = %v, want %v", c.values, got, c.want)
		}
		if !slices.Equal(c.values, before) {
			t.Errorf("EncodeInts changes its argument %v to %v", before, c.values)
		}
	}
}

// EncodeInts has no limit of 100 values.
func TestEncodeIntsMany(t *testing.T) {
	var values []int
	var want []byte
	for i := range 2000 {
		values = append(values, i*i*i-5)
		want = impl.AppendUvarint(want, i*i*i-5)
	}
	if got := impl.EncodeInts(values); !bytes.Equal(got, want) {
		t.Errorf("EncodeInts of %d values has %d bytes, want %d", len(values), len(got), len(want))
	}
}

func TestDecodeInts(t *testing.T) {
	b := []byte{9, 5, 172, 2, 0, 128, 160, 148, 165, 141, 29}
	cases := []struct {
		offset, count int
		want          []int
		next          int
	}{
		{0, 0, nil, 0},
		{1, 0, nil, 1},
		{0, 1, []int{9}, 1},
		{1, 2, []int{5, 300}, 4},
		{0, 5, []int{9, 5, 300, 0, impl.MaxValue}, 11},
		{3, 2, []int{2, 0}, 5},
		{5, 1, []int{impl.MaxValue}, 11},
		{10, 1, []int{29}, 11},
		// nothing is decoded, so nothing needs to be there
		{7, 0, nil, 7},
		{11, 0, nil, 11},
	}
	for _, c := range cases {
		got, next, ok := impl.DecodeInts(b, c.offset, c.count)
		if !slices.Equal(got, c.want) || next != c.next || !ok {
			t.Errorf("DecodeInts(%v, %d, %d) = %v, %d, %v, want %v, %d, true",
				b, c.offset, c.count, got, next, ok, c.want, c.next)
		}
	}
	if got, next, ok := impl.DecodeInts(nil, 0, 0); len(got) != 0 || next != 0 || !ok {
		t.Errorf("DecodeInts(nil, 0, 0) = %v, %d, %v", got, next, ok)
	}
}

// rejectInts reports an error unless DecodeInts returns an empty slice, 0 and false.
func rejectInts(t *testing.T, name string, b []byte, offset int, count int) {
	t.Helper()
	if values, next, ok := impl.DecodeInts(b, offset, count); len(values) != 0 || next != 0 || ok {
		t.Errorf("%s: DecodeInts(%v, %d, %d) = %v, %d, %v, want an empty slice, 0, false",
			name, b, offset, count, values, next, ok)
	}
}

func TestDecodeIntsCount(t *testing.T) {
	var values []int
	for i := range 150 {
		values = append(values, i*i)
	}
	b := impl.EncodeInts(values)
	for _, count := range []int{0, 1, 2, 50, 99, 100} {
		got, next, ok := impl.DecodeInts(b, 0, count)
		if !slices.Equal(got, values[:count]) || next != len(impl.EncodeInts(values[:count])) || !ok {
			t.Errorf("DecodeInts of %d of 150 varints = %v, %d, %v", count, got, next, ok)
		}
	}
	for _, count := range []int{101, 102, 150, 1000, impl.MaxValue, math.MaxInt, -1, -2, -100, math.MinInt, 1 << 32} {
		rejectInts(t, "count out of range", b, 0, count)
		rejectInts(t, "count out of range at the end", b, len(b), count)
	}
}

func TestDecodeIntsOffset(t *testing.T) {
	for _, b := range [][]byte{nil, {}, {5}, {5, 172, 2}} {
		spare, _ := roomy(b)
		for _, offset := range badOffsets(len(b)) {
			if offset == len(b) {
				continue
			}
			for _, count := range []int{0, 1, 2, 100} {
				rejectInts(t, "offset out of range", b, offset, count)
				rejectInts(t, "offset in the spare capacity", spare, offset, count)
			}
		}
		for _, count := range []int{1, 2, 100} {
			rejectInts(t, "nothing left", b, len(b), count)
			rejectInts(t, "only spare capacity left", spare, len(b), count)
		}
	}
}

func TestDecodeIntsRejects(t *testing.T) {
	rejectInts(t, "too few", []byte{5, 172, 2}, 0, 3)
	rejectInts(t, "too few", []byte{5, 172, 2}, 0, 100)
	rejectInts(t, "too few from an offset", []byte{5, 172, 2}, 1, 2)
	for _, c := range notVarints {
		rejectInts(t, c.name, c.code, 0, 1)
		rejectInts(t, c.name, slices.Concat([]byte{5, 172, 2}, c.code), 0, 3)
		rejectInts(t, c.name, slices.Concat([]byte{5, 172, 2}, c.code), 1, 2)
		// what follows the varints that are asked for does not matter
		b := slices.Concat([]byte{5, 172, 2}, c.code)
		if got, next, ok := impl.DecodeInts(b, 0, 2); !slices.Equal(got, []int{5, 300}) || next != 3 || !ok {
			t.Errorf("%s: DecodeInts(%v, 0, 2) = %v, %d, %v", c.name, b, got, next, ok)
		}
	}
}

func TestDecodeIntsLeavesInput(t *testing.T) {
	b, unchanged := roomy([]byte{5, 172, 2, 128})
	for count := range 5 {
		impl.DecodeInts(b, 0, count)
		impl.ReadUvarint(b, count)
	}
	if !unchanged() {
		t.Error("DecodeInts or ReadUvarint changes its argument")
	}
}

// Results of two calls share no memory.
func TestDecodedResultsAreFresh(t *testing.T) {
	b := []byte{2, 7, 8}
	data, _, _ := impl.ReadBytes(b, 0, 2)
	values, _, _ := impl.DecodeInts(b, 0, 3)
	data[0], values[0] = 99, 99
	againData, _, _ := impl.ReadBytes(b, 0, 2)
	againValues, _, _ := impl.DecodeInts(b, 0, 3)
	if !bytes.Equal(againData, []byte{7, 8}) || !slices.Equal(againValues, []int{2, 7, 8}) {
		t.Errorf("after a change of the first results: %v and %v", againData, againValues)
	}
}

func TestEqualBytes(t *testing.T) {
	cases := []struct {
		a, b []byte
		want bool
	}{
		{nil, nil, true},
		{nil, []byte{}, true},
		{[]byte{}, []byte{}, true},
		{nil, []byte{0}, false},
		{[]byte{0}, []byte{0}, true},
		{[]byte{7, 8}, []byte{7, 8}, true},
		{[]byte{7, 8}, []byte{8, 7}, false},
		{[]byte{7, 8}, []byte{7, 9}, false},
		{[]byte{7, 8}, []byte{6, 8}, false},
		{[]byte{7, 8}, []byte{7}, false},
		{[]byte{7, 8}, []byte{7, 8, 0}, false},
		{[]byte{1}, []byte{129}, false},
		{make([]byte, 2, 10), make([]byte, 2, 3), true},
	}
	for _, c := range cases {
		if impl.EqualBytes(c.a, c.b) != c.want || impl.EqualBytes(c.b, c.a) != c.want {
			t.Errorf("EqualBytes of %v and %v is not %v in both orders", c.a, c.b, c.want)
		}
	}
}
