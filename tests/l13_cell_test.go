package tests

import (
	"bytes"
	"math"
	"slices"
	"testing"

	"loop.example/g00516/impl"
)

// cellKeys lists valid keys, the least and the greatest one among them.
var cellKeys = []int{1, 2, 77, 78, 123456789, impl.Modulus - 2, impl.Modulus - 1}

// notCellKeys lists integers that are no valid keys, some of them with the same remainder as one of cellKeys.
var notCellKeys = []int{0, -1, -2, -77, -impl.Modulus, 1 - impl.Modulus, 77 - impl.Modulus, -impl.Modulus - 1, impl.Modulus,
	impl.Modulus + 1, impl.Modulus + 77, 2*impl.Modulus - 1, 1<<32 + 77, 1 << 62, 77 * impl.Modulus, impl.MaxValue, -impl.MaxValue,
	math.MinInt, math.MinInt + 1, math.MaxInt, math.MaxInt - 1}

// someCounters lists valid counters, the least and the greatest one among them.
var someCounters = []int{0, 1, 2, 3, 4, 77, 255, 256, 1 << 20, impl.Modulus - 1, impl.Modulus, impl.Modulus + 3, 1 << 32,
	impl.MaxValue - 1, impl.MaxValue}

// notCounters lists integers that are no counters. Each has the same remainder as a valid one.
var notCounters = []int{-1, -2, -77, -impl.Modulus, 3 - impl.Modulus, -impl.MaxValue, impl.MaxValue + 1, impl.MaxValue + 2,
	2 * impl.MaxValue, 1 << 62, 1000 * impl.Modulus, math.MinInt, math.MinInt + 1, math.MaxInt, math.MaxInt - 1}

// notKinds lists integers that are no kinds of a message, some of which are one as a byte.
var notKinds = []int{-1, -2, -3, 4, 5, 100, 127, 128, 255, 256, 257, 259, -253, -255, -256, 1 << 32, 1<<32 + 1, 1 << 62, impl.MaxValue,
	-impl.MaxValue, math.MinInt, math.MinInt + 1, math.MaxInt}

// notBodyLengths lists numbers of bytes that no body has, some of which are fewer than 15 as a byte.
var notBodyLengths = []int{15, 16, 17, 18, 19, 20, 24, 100, 255, 256, 257, 270, 271, 400, 1000, 1 << 16}

// plainOf returns the Plain of this kind and body.
func plainOf(kind int, body []byte) impl.Plain {
	return impl.Plain{Kind: kind, Body: body}
}

// samePlain tells whether a and b have the same kind and the same body.
func samePlain(a impl.Plain, b impl.Plain) bool {
	return a.Kind == b.Kind && bytes.Equal(a.Body, b.Body)
}

// somePlains lists a message of every kind and every length of a body, and bodies of equal bytes.
func somePlains() []impl.Plain {
	list := []impl.Plain{{}}
	for kind := range 4 {
		for length := range 15 {
			list = append(list, plainOf(kind, mixed(length, 10*length+kind)))
		}
		for _, c := range []byte{0, 14, 255} {
			list = append(list, plainOf(kind, bytes.Repeat([]byte{c}, 13)), plainOf(kind, bytes.Repeat([]byte{c}, 14)))
		}
	}
	return list
}

// notPlains lists messages with an unknown kind or a body that is too long, or both.
func notPlains() []impl.Plain {
	var list []impl.Plain
	for _, kind := range notKinds {
		for _, length := range []int{0, 1, 13, 14, 15} {
			list = append(list, plainOf(kind, mixed(length, kind%7)))
		}
	}
	for kind := range 4 {
		for _, length := range notBodyLengths {
			list = append(list, plainOf(kind, mixed(length, length)), plainOf(kind, make([]byte, length)))
		}
	}
	return list
}

// referenceEncrypt encrypts plain bytes as chapter 3 states it.
func referenceEncrypt(key int, plain []byte) []byte {
	encrypted := slices.Clone(plain)
	for i := range encrypted {
		encrypted[i] += byte(referenceHash([]int{key, i, key}) % 256)
	}
	return encrypted
}

// referenceCheck is the check value of data as chapter 13 states it.
func referenceCheck(key int, counter int, data []byte) int {
	values := []int{key, 71, counter}
	for _, c := range data {
		values = append(values, int(c))
	}
	return referenceHash(append(values, key))
}

// referenceCipherKey is the key of the cipher as chapter 13 states it.
func referenceCipherKey(key int, counter int) int {
	if h := referenceHash([]int{key, 67, counter, key}); h != 0 {
		return h
	}
	return 1
}

// referencePlain returns the 20 plain bytes of a message as chapter 13 states them.
func referencePlain(key int, counter int, p impl.Plain) []byte {
	stream := referenceStream(referenceHash([]int{key, 61, counter, key}), 18)
	return slices.Concat([]byte{byte(p.Kind), byte(len(p.Body))}, p.Body, stream[len(p.Body):])
}

// sealBytes returns the encrypted bytes and the check value that belongs to them, whatever the bytes are.
func sealBytes(key int, counter int, plain []byte) []byte {
	encrypted := referenceEncrypt(referenceCipherKey(key, counter), plain)
	return withCheck(encrypted, referenceCheck(key, counter, encrypted))
}

// withCheck appends a check value to encrypted bytes, the low byte first.
func withCheck(encrypted []byte, check int) []byte {
	return append(slices.Clone(encrypted), byte(check%256), byte(check/256%256), byte(check/65536%256), byte(check/16777216))
}

// referenceCell is the cell of a message as chapter 13 states it.
func referenceCell(key int, counter int, p impl.Plain) []byte {
	return sealBytes(key, counter, referencePlain(key, counter, p))
}

// checkSealed stops the test if SealCell does not return the wanted cell and true.
func checkSealed(t *testing.T, key int, counter int, p impl.Plain, want []byte) {
	t.Helper()
	if got, ok := impl.SealCell(key, counter, p); !ok || !bytes.Equal(got, want) {
		t.Fatalf("SealCell(%d, %d, %v) = %v, %v, want %v, true", key, counter, p, got, ok, want)
	}
}

// rejectSealed stops the test if SealCell does not return an empty slice and false.
func rejectSealed(t *testing.T, key int, counter int, p impl.Plain) {
	t.Helper()
	if got, ok := impl.SealCell(key, counter, p); ok || len(got) != 0 {
		t.Fatalf("SealCell(%d, %d, %s) = %s, %v, want empty, false", key, counter, brief(p), brief(got), ok)
	}
}

// checkOpened stops the test if OpenCell does not return the wanted message and true.
func checkOpened(t *testing.T, key int, counter int, cell []byte, want impl.Plain) {
	t.Helper()
	if got, ok := impl.OpenCell(key, counter, cell); !ok || !samePlain(got, want) {
		t.Fatalf("OpenCell(%d, %d, %v) = %v, %v, want %v, true", key, counter, cell, got, ok, want)
	}
}

// rejectOpened stops the test if OpenCell does not return the zero Plain and false.
func rejectOpened(t *testing.T, key int, counter int, cell []byte) {
	t.Helper()
	if got, ok := impl.OpenCell(key, counter, cell); ok || got.Kind != 0 || len(got.Body) != 0 {
		t.Fatalf("OpenCell(%d, %d, %s) = %v, %v, want the zero Plain, false", key, counter, brief(cell), got, ok)
	}
}

// checkFound stops the test if FindCounter does not return the wanted counter, before a missing limit
// makes a later one of the calls endless.
func checkFound(t *testing.T, key int, cell []byte, first int, count int, want int) {
	t.Helper()
	if got := impl.FindCounter(key, cell, first, count); got != want {
		t.Fatalf("FindCounter(%d, %s, %d, %d) = %d, want %d", key, brief(cell), first, count, got, want)
	}
}

func TestCellConstants(t *testing.T) {
	if impl.MaxBody != 14 || impl.CoverKind != 0 || impl.TextKind != 1 || impl.DialKind != 2 || impl.FileKind != 3 {
		t.Error("MaxBody or one of the kinds is not what chapter 13 states")
	}
}

func TestSealCell(t *testing.T) {
	cases := []struct {
		key, counter int
		kind         int
		body         []byte
		want         []byte
	}{
		{77, 3, impl.TextKind, []byte("hello"), []byte{187, 2, 168, 232, 50, 117, 187, 2, 17, 96, 236, 184, 195, 12, 147, 90, 95, 163, 38, 231,
			59, 167, 20, 66}},
		// the zero Plain
		{77, 0, impl.CoverKind, nil, []byte{12, 79, 146, 132, 182, 38, 212, 194, 238, 89, 3, 235, 18, 120, 28, 255, 33, 129, 33, 255,
			203, 162, 36, 126}},
		{77, 0, impl.CoverKind, []byte{}, []byte{12, 79, 146, 132, 182, 38, 212, 194, 238, 89, 3, 235, 18, 120, 28, 255, 33, 129, 33, 255,
			203, 162, 36, 126}},
		// the least and the greatest key and counter
		{1, 0, impl.TextKind, []byte("a"), []byte{168, 235, 142, 103, 230, 165, 162, 221, 88, 17, 9, 64, 181, 105, 92, 141, 253, 172, 154, 198,
			41, 23, 99, 53}},
		{impl.Modulus - 1, 0, impl.DialKind, []byte{0, 255}, []byte{153, 220, 29, 95, 244, 119, 58, 59, 123, 250, 183, 179, 238, 103, 31, 22, 76,
			192, 115, 101, 28, 136, 153, 66}},
		{77, impl.MaxValue, impl.FileKind, []byte{0, 1, 2, 3, 4, 5, 6, 7, 8, 9, 10, 11, 12, 13}, []byte{112, 190, 243, 55, 123, 191, 3, 71, 139,
			207, 19, 87, 155, 223, 35, 103, 208, 108, 72, 97, 51, 199, 208, 69}},
		// bodies of the greatest length and of one byte less
		{1, impl.MaxValue, impl.FileKind, bytes.Repeat([]byte{255}, 14), []byte{11, 89, 141, 208, 19, 86, 153, 220, 31, 98, 165, 232, 43, 110,
			177, 244, 233, 212, 254, 102, 135, 168, 43, 96}},
		{impl.Modulus - 1, impl.MaxValue, impl.CoverKind, make([]byte, 13), []byte{248, 72, 126, 193, 4, 71, 138, 205, 16, 83, 150, 217, 28, 95,
			162, 160, 17, 193, 176, 222, 166, 134, 219, 13}},
		// a counter as great as Modulus
		{123456789, impl.Modulus, impl.TextKind, []byte("hi"), []byte{209, 21, 190, 2, 72, 214, 163, 174, 248, 129, 73, 79, 148, 23, 218, 219,
			27, 153, 86, 82, 49, 198, 203, 126}},
	}
	for _, c := range cases {
		p := plainOf(c.kind, c.body)
		checkSealed(t, c.key, c.counter, p, c.want)
		checkOpened(t, c.key, c.counter, c.want, p)
	}
}

// Every message is sealed as the chapter states it, and opened with its key and counter.
func TestSealCellAgainstReference(t *testing.T) {
	plains := somePlains()
	for _, key := range cellKeys {
		for _, counter := range someCounters {
			for _, p := range plains {
				want := referenceCell(key, counter, p)
				checkSealed(t, key, counter, p, want)
				checkOpened(t, key, counter, want, p)
			}
		}
	}
}

// Behind the cipher, a cell is the kind, the length, the body and a padding that does not depend on them.
func TestCellParts(t *testing.T) {
	for _, key := range cellKeys {
		for _, counter := range someCounters {
			padding := impl.StreamBytes(impl.KeyedHash(key, []int{61, counter}), 18)
			for _, p := range somePlains() {
				cell, ok := impl.SealCell(key, counter, p)
				if !ok || len(cell) != impl.CellBytes {
					t.Fatalf("SealCell(%d, %d, %v) = %v, %v, want %d bytes, true", key, counter, p, cell, ok, impl.CellBytes)
				}
				plain := impl.Decrypt(impl.KeyedHash(key, []int{67, counter}), cell[:20])
				length := len(p.Body)
				if int(plain[0]) != p.Kind || int(plain[1]) != length || !bytes.Equal(plain[2:2+length], p.Body) ||
					!bytes.Equal(plain[2+length:], padding[length:]) {
					t.Fatalf("SealCell(%d, %d, %v) encrypts %v", key, counter, p, plain)
				}
				check := impl.CellCheck(key, counter, cell[:20])
				if got := int(cell[20]) + int(cell[21])<<8 + int(cell[22])<<16 + int(cell[23])<<24; got != check {
					t.Fatalf("the check value of SealCell(%d, %d, %v) is %d, want %d", key, counter, p, got, check)
				}
			}
		}
	}
}

// sameHash lists keys and counters with which the keyed hash of mark and counter is want.
var sameHash = []struct{ mark, key, counter, want int }{
	{61, 78844619, 0, 0}, {61, 1337592110, 0, 1}, {61, 1781086232, 3, 0}, {61, 892350076, 3, 1},
	{61, 434834956, impl.MaxValue, 0}, {61, 1, 769397683, 0}, {61, 77, 1439554142, 1}, {61, impl.Modulus - 1, 226734440, 0},
	{67, 1793359317, 0, 0}, {67, 904623161, 0, 1}, {67, 15887005, 0, 2}, {67, 1348117283, 3, 0}, {67, 459381127, 3, 1},
	{67, 1718128618, 3, 2}, {67, 1866007, impl.MaxValue, 0}, {67, 1260613498, impl.MaxValue, 1}, {67, 1, 763397665, 0},
	{67, 1, 139703713, 1}, {67, 77, 2057248076, 0}, {67, impl.Modulus - 1, 220734422, 0}, {67, impl.Modulus - 1, 1744524117, 1},
}

// A cell is encrypted with 1 where the keyed hash is 0; the padding comes from that hash even if it is 0.
func TestCellKeysThatWouldBeZero(t *testing.T) {
	for _, c := range sameHash {
		if h := impl.KeyedHash(c.key, []int{c.mark, c.counter}); h != c.want {
			t.Fatalf("the keyed hash of %d and %d with the key %d is %d, want %d", c.mark, c.counter, c.key, h, c.want)
		}
		for _, p := range somePlains() {
			want := referenceCell(c.key, c.counter, p)
			checkSealed(t, c.key, c.counter, p, want)
			checkOpened(t, c.key, c.counter, want, p)
		}
	}
	hello := plainOf(impl.TextKind, []byte("hello"))
	cell, _ := impl.SealCell(1348117283, 3, hello)
	if got := impl.Decrypt(1, cell[:20]); !bytes.HasPrefix(got, []byte("\x01\x05hello")) {
		t.Errorf("the cell whose cipher would have the key 0 is %v behind the key 1", got)
	}
}

func TestSealCellRejects(t *testing.T) {
	plains := []impl.Plain{{}, plainOf(impl.TextKind, []byte("hello")), plainOf(impl.FileKind, mixed(14, 3)), plainOf(-1, nil),
		plainOf(1, mixed(15, 3))}
	for _, p := range plains {
		for _, key := range notCellKeys {
			for _, counter := range slices.Concat(someCounters, notCounters) {
				rejectSealed(t, key, counter, p)
			}
		}
		for _, counter := range notCounters {
			for _, key := range cellKeys {
				rejectSealed(t, key, counter, p)
			}
		}
	}
	for _, p := range notPlains() {
		for _, key := range cellKeys {
			for _, counter := range []int{0, 3, impl.MaxValue, -1, impl.MaxValue + 1} {
				rejectSealed(t, key, counter, p)
			}
		}
	}
}

// A cell is opened with its own key and counter only. The hashes of counters that differ by a multiple of
// Modulus are the same, and so are the cells.
func TestOpenCellWithAnother(t *testing.T) {
	for _, key := range cellKeys {
		for _, counter := range someCounters {
			for _, p := range []impl.Plain{{}, plainOf(impl.TextKind, []byte("hello")), plainOf(impl.FileKind, mixed(14, key))} {
				cell, _ := impl.SealCell(key, counter, p)
				for _, otherKey := range cellKeys {
					for _, other := range someCounters {
						if otherKey == key && other%impl.Modulus == counter%impl.Modulus {
							checkOpened(t, otherKey, other, cell, p)
						} else {
							rejectOpened(t, otherKey, other, cell)
						}
					}
				}
			}
		}
	}
}

func TestOpenCellWithNeighbours(t *testing.T) {
	p := plainOf(impl.DialKind, mixed(14, 9))
	cell, _ := impl.SealCell(77, 500, p)
	for counter := range 1000 {
		if counter != 500 {
			rejectOpened(t, 77, counter, cell)
		}
	}
	for key := range 1000 {
		if key != 77 {
			rejectOpened(t, key, 500, cell)
		}
	}
	for bit := range 40 {
		rejectOpened(t, 77, 500^1<<bit, cell)
		rejectOpened(t, 77^1<<bit, 500, cell)
	}
}

// One message has another cell with every counter and every key.
func TestSealCellDiffers(t *testing.T) {
	for _, p := range []impl.Plain{{}, plainOf(impl.TextKind, []byte("hello"))} {
		seen := map[string]bool{}
		for i := range 1000 {
			for _, place := range [][2]int{{77, i}, {1000 + i, 1000}} {
				cell, ok := impl.SealCell(place[0], place[1], p)
				if !ok || seen[string(cell)] {
					t.Fatalf("SealCell(%d, %d, %v) = %v, %v, want another cell, true", place[0], place[1], p, cell, ok)
				}
				seen[string(cell)] = true
			}
		}
	}
}

// No cell is opened in which one bit, or one byte, is another one.
func TestOpenCellChanged(t *testing.T) {
	for _, p := range somePlains() {
		for i, key := range cellKeys {
			counter := someCounters[2*i]
			cell, _ := impl.SealCell(key, counter, p)
			for bit := range 8 * impl.CellBytes {
				changed := slices.Clone(cell)
				changed[bit/8] ^= 1 << (bit % 8)
				rejectOpened(t, key, counter, changed)
			}
			checkOpened(t, key, counter, cell, p)
		}
	}
	cell, _ := impl.SealCell(77, 3, plainOf(impl.TextKind, mixed(14, 3)))
	for place := range cell {
		for c := 1; c < 256; c++ {
			changed := slices.Clone(cell)
			changed[place] += byte(c)
			rejectOpened(t, 77, 3, changed)
		}
		for other := range place {
			changed := slices.Clone(cell)
			changed[place], changed[other] = changed[other], changed[place]
			if changed[place] != cell[place] {
				rejectOpened(t, 77, 3, changed)
			}
		}
	}
	slices.Reverse(cell[20:])
	rejectOpened(t, 77, 3, cell)
}

// The check value is compared as a whole: others with the same remainder are not taken for it.
func TestOpenCellOtherCheckValues(t *testing.T) {
	for _, p := range somePlains() {
		cell, _ := impl.SealCell(77, 3, p)
		check := impl.CellCheck(77, 3, cell[:20])
		checkOpened(t, 77, 3, withCheck(cell[:20], check), p)
		for _, other := range []int{0, 1, check + impl.Modulus, check ^ 1<<31, impl.Modulus - check, 1<<32 - 1, check + 1, check - 1} {
			if other < 1<<32 {
				rejectOpened(t, 77, 3, withCheck(cell[:20], other))
			}
		}
	}
}

// Cells with another padding have these check values, the least and the greatest one among them.
func TestOpenCellSpecialCheckValues(t *testing.T) {
	hello := plainOf(impl.TextKind, []byte("hello"))
	head := []byte{187, 2, 168, 232, 50, 117, 187, 143, 217, 28, 95, 162, 229, 40, 107, 174}
	cases := []struct {
		last  []byte
		check int
	}{
		{[]byte{189, 84, 25, 152}, 0},
		{[]byte{142, 76, 10, 128}, 1},
		{[]byte{192, 172, 100, 30}, 255},
		{[]byte{145, 164, 85, 6}, 256},
		{[]byte{116, 197, 42, 211}, 65536},
		{[]byte{208, 204, 72, 46}, 16777216},
		{[]byte{199, 184, 14, 64}, impl.Modulus - 1},
	}
	for _, c := range cases {
		encrypted := slices.Concat(head, c.last)
		if got := impl.CellCheck(77, 3, encrypted); got != c.check {
			t.Errorf("CellCheck(77, 3, %v) = %d, want %d", encrypted, got, c.check)
		}
		checkOpened(t, 77, 3, withCheck(encrypted, c.check), hello)
		for _, other := range cases {
			if other.check != c.check {
				rejectOpened(t, 77, 3, withCheck(encrypted, other.check))
			}
		}
	}
}

func TestOpenCellSizes(t *testing.T) {
	for _, p := range []impl.Plain{{}, plainOf(impl.TextKind, []byte("hello")), plainOf(impl.FileKind, mixed(14, 3))} {
		cell, _ := impl.SealCell(77, 3, p)
		rejectOpened(t, 77, 3, nil)
		for length := range 100 {
			if length == impl.CellBytes {
				continue
			}
			rejectOpened(t, 77, 3, extended(cell, length)[:length])
			// the check value belongs to all bytes in front of it, too few or too many
			if length >= 4 {
				rejectOpened(t, 77, 3, sealBytes(77, 3, extended(referencePlain(77, 3, p), length)[:length-4]))
			}
		}
		// what is missing is there in the spare capacity
		for length := range impl.CellBytes {
			rejectOpened(t, 77, 3, cell[:length])
		}
	}
	for _, cell := range notCells() {
		for _, key := range append(cellKeys, notCellKeys...) {
			rejectOpened(t, key, 3, cell)
			checkFound(t, key, cell, 0, 10, -1)
		}
	}
}

// A key or a counter that is not valid opens no cell, also one that has the same hashes as a valid one.
func TestOpenCellInvalid(t *testing.T) {
	for _, p := range somePlains() {
		for _, key := range notCellKeys {
			for _, counter := range []int{0, 3, impl.MaxValue, -1} {
				if valid := impl.Mod(key, impl.Modulus); valid != 0 {
					cell, _ := impl.SealCell(valid, impl.Mod(counter, impl.Modulus), p)
					checkOpened(t, valid, impl.Mod(counter, impl.Modulus), cell, p)
					rejectOpened(t, key, counter, cell)
				}
				rejectOpened(t, key, counter, referenceCell(key, counter, p))
			}
		}
		for _, counter := range notCounters {
			for _, key := range cellKeys {
				cell, _ := impl.SealCell(key, impl.Mod(counter, impl.Modulus), p)
				checkOpened(t, key, impl.Mod(counter, impl.Modulus), cell, p)
				rejectOpened(t, key, counter, cell)
			}
		}
	}
}

// A cell with a correct check value is opened if its kind and its length are within their limits.
func TestOpenCellKindsAndLengths(t *testing.T) {
	few := []int{0, 1, 2, 3, 4, 5, 13, 14, 15, 16, 17, 18, 19, 20, 127, 128, 254, 255}
	var heads [][2]int
	for value := range 256 {
		for _, other := range few {
			heads = append(heads, [2]int{value, other}, [2]int{other, value})
		}
	}
	body := mixed(18, 5)
	for _, head := range heads {
		kind, length := head[0], head[1]
		cell := sealBytes(77, 3, slices.Concat([]byte{byte(kind), byte(length)}, body))
		if kind <= 3 && length <= 14 {
			checkOpened(t, 77, 3, cell, plainOf(kind, body[:length]))
		} else {
			rejectOpened(t, 77, 3, cell)
			checkFound(t, 77, cell, 0, 10, -1)
		}
	}
}

// The padding of a cell does not matter if the check value belongs to it.
func TestOpenCellIgnoresPadding(t *testing.T) {
	for _, p := range somePlains() {
		for i, key := range cellKeys {
			counter := someCounters[i+6]
			head := referencePlain(key, counter, p)[:2+len(p.Body)]
			for _, filler := range [][]byte{make([]byte, 20), bytes.Repeat([]byte{255}, 20), mixed(20, i), mixed(20, 100+i)} {
				cell := sealBytes(key, counter, append(slices.Clone(head), filler[len(head):]...))
				checkOpened(t, key, counter, cell, p)
				checkFound(t, key, cell, counter, 1, counter)
			}
		}
	}
	plain := referencePlain(77, 3, plainOf(impl.TextKind, mixed(14, 3)))
	for place := 16; place < 20; place++ {
		for c := range 256 {
			plain[place] = byte(c)
			checkOpened(t, 77, 3, sealBytes(77, 3, plain), plainOf(impl.TextKind, mixed(14, 3)))
		}
	}
}

func TestCoverCell(t *testing.T) {
	cases := []struct {
		seed int
		want []byte
	}{
		{5, []byte{159, 8, 175, 149, 185, 29, 191, 159, 191, 29, 186, 149, 175, 8, 160, 118, 139, 223, 114, 67, 83, 161, 47, 251}},
		{6, []byte{89, 49, 71, 156, 48, 2, 20, 99, 242, 191, 203, 22, 159, 103, 110, 180, 56, 251, 252, 61, 188, 122, 118, 177}},
		{0, []byte{140, 200, 68, 254, 246, 46, 164, 89, 77, 127, 240, 160, 142, 187, 39, 210, 187, 227, 74, 239, 211, 246, 87, 248}},
		{1, []byte{22, 194, 173, 214, 62, 228, 202, 238, 81, 242, 210, 241, 79, 235, 198, 224, 56, 207, 165, 186, 13, 159, 112, 127}},
		{-1, []byte{62, 11, 23, 98, 236, 180, 187, 1, 133, 73, 74, 139, 10, 200, 197, 0, 122, 51, 43, 97, 214, 138, 124, 173}},
		{impl.Modulus, []byte{140, 200, 68, 254, 246, 46, 164, 89, 77, 127, 240, 160, 142, 187, 39, 210, 187, 227, 74, 239, 211, 246, 87, 248}},
		{impl.MaxValue, []byte{104, 110, 178, 53, 247, 247, 54, 180, 113, 108, 166, 31, 214, 204, 1, 117, 39, 24, 72, 182, 99, 79, 121, 227}},
		{-impl.MaxValue, []byte{18, 133, 56, 41, 89, 199, 116, 96, 139, 244, 156, 131, 169, 13, 176, 145, 177, 16, 174, 139, 166, 0, 152, 111}},
		{math.MinInt, []byte{44, 139, 40, 3, 30, 119, 15, 229, 251, 79, 225, 179, 195, 18, 159, 108, 119, 192, 73, 16, 21, 90, 221, 159}},
		{math.MaxInt, []byte{22, 194, 173, 214, 62, 228, 202, 238, 81, 242, 210, 241, 79, 235, 198, 224, 56, 207, 165, 186, 13, 159, 112, 127}},
	}
	for _, c := range cases {
		if got := impl.CoverCell(c.seed); !bytes.Equal(got, c.want) {
			t.Errorf("CoverCell(%d) = %v, want %v", c.seed, got, c.want)
		}
	}
	for _, seed := range slices.Concat(someKeys, notCellKeys, someSides) {
		want := referenceStream(referenceHash([]int{seed, 73, seed}), impl.CellBytes)
		got := impl.CoverCell(seed)
		if !bytes.Equal(got, want) || !bytes.Equal(got, impl.StreamBytes(impl.KeyedHash(seed, []int{73}), 24)) {
			t.Errorf("CoverCell(%d) = %v, want %v", seed, got, want)
		}
	}
}

// Cover cells have the size of a cell, and nobody opens them.
func TestCoverCellStaysClosed(t *testing.T) {
	for seed := range 1000 {
		cell := impl.CoverCell(seed)
		if len(cell) != impl.CellBytes {
			t.Fatalf("CoverCell(%d) = %v, want %d bytes", seed, cell, impl.CellBytes)
		}
		for _, key := range append(cellKeys, seed) {
			checkFound(t, key, cell, 0, 20, -1)
			rejectOpened(t, key, seed, cell)
			rejectOpened(t, key, 73, cell)
		}
	}
}

func TestCellCheck(t *testing.T) {
	cases := []struct {
		key, counter int
		data         string
		want         int
	}{
		{77, 3, "", 2138792751},
		{77, 3, "hello", 52053701},
		{0, 0, "", 776432007},
		{0, 0, "\x00", 886304949},
		{1, 0, "a", 440388450},
		// neither a key nor a counter has to be valid
		{-1, -1, "\xff\xfe", 434921015},
		{impl.Modulus, impl.Modulus, "ab", 1295758491},
		{math.MinInt, math.MaxInt, "ab", 585937445},
		{math.MaxInt, math.MinInt, "", 1823993763},
		{77, impl.MaxValue, "hello", 737926648},
		{77, impl.MaxValue + 1, "hello", 652085599},
		// the least and the greatest check value
		{77, 2053248064, "", 0},
		{77, 525390868, "hello", 0},
		{77, 1276466872, "hello", 1},
		{77, 1921798511, "hello", impl.Modulus - 1},
	}
	for _, c := range cases {
		if got := impl.CellCheck(c.key, c.counter, []byte(c.data)); got != c.want {
			t.Errorf("CellCheck(%d, %d, %q) = %d, want %d", c.key, c.counter, c.data, got, c.want)
		}
	}
	if impl.CellCheck(77, 3, nil) != impl.CellCheck(77, 3, []byte{}) {
		t.Error("CellCheck of nil is not that of an empty slice")
	}
}

func TestCellCheckAgainstReference(t *testing.T) {
	for _, key := range slices.Concat(someKeys, notCellKeys) {
		for _, counter := range slices.Concat(someCounters, notCounters) {
			for _, data := range [][]byte{nil, {}, {0}, {255}, mixed(19, 1), mixed(20, 2), mixed(21, 3)} {
				if got, want := impl.CellCheck(key, counter, data), referenceCheck(key, counter, data); got != want {
					t.Fatalf("CellCheck(%d, %d, %v) = %d, want %d", key, counter, data, got, want)
				}
			}
		}
	}
	for _, data := range someTexts() {
		if got, want := impl.CellCheck(77, 3, data), referenceCheck(77, 3, data); got != want {
			t.Errorf("CellCheck of %d bytes, %s = %d, want %d", len(data), brief(data), got, want)
		}
	}
	long := mixed(100000, 7)
	if got, want := impl.CellCheck(77, 3, long), referenceCheck(77, 3, long); got != want {
		t.Errorf("CellCheck of %d bytes = %d, want %d", len(long), got, want)
	}
}

func TestIsValidPlain(t *testing.T) {
	for _, p := range somePlains() {
		if !impl.IsValidPlain(p) {
			t.Errorf("IsValidPlain(%v) is false", p)
		}
	}
	for _, p := range notPlains() {
		if impl.IsValidPlain(p) {
			t.Errorf("IsValidPlain(%s) is true", brief(p))
		}
	}
	for kind := -300; kind < 300; kind++ {
		for _, length := range []int{0, 13, 14, 15} {
			want := kind >= 0 && kind <= 3 && length <= 14
			if got := impl.IsValidPlain(plainOf(kind, make([]byte, length))); got != want {
				t.Errorf("IsValidPlain of the kind %d and %d bytes = %v, want %v", kind, length, got, want)
			}
		}
	}
	if !impl.IsValidPlain(impl.Plain{}) {
		t.Error("IsValidPlain of the zero value is false")
	}
}

func TestFindCounter(t *testing.T) {
	p := plainOf(impl.TextKind, []byte("hello"))
	cases := []struct {
		counter, first, count int
		want                  int
	}{
		// before, at and behind the counter
		{3, 0, 9, 3}, {3, 2, 9, 3}, {3, 3, 9, 3}, {3, 4, 9, -1}, {3, 100, 9, -1}, {0, 0, 1, 0}, {0, 1, 9, -1},
		// the last counter within the count, and the first one beyond it
		{3, 0, 4, 3}, {3, 0, 3, -1}, {3, 3, 1, 3}, {3, 3, 0, -1}, {3, 2, 1, -1}, {3, 2, 2, 3},
		{149, 50, 100, 149}, {149, 50, 99, -1}, {99, 0, 100, 99}, {99, 0, 101, 99}, {98, 0, 99, 98},
		// at most 100 counters are tried
		{100, 0, 100, -1}, {100, 0, 101, -1}, {100, 0, 102, -1}, {100, 0, 1000, -1}, {100, 0, impl.MaxValue, -1},
		{100, 0, math.MaxInt, -1}, {100, 1, math.MaxInt, 100}, {99, 0, math.MaxInt, 99}, {150, 50, 101, -1}, {200, 50, 1000, -1},
		// and at least none
		{3, 3, -1, -1}, {3, 0, -1, -1}, {3, 3, -100, -1}, {3, 3, math.MinInt, -1}, {3, 3, math.MinInt + 1, -1}, {0, 0, 0, -1},
		// first counters that are negative
		{3, -1, 5, 3}, {3, -1, 4, -1}, {3, -3, 9, 3}, {0, -1, 1, -1}, {0, -1, 2, 0}, {0, -99, 100, 0}, {0, -100, 100, -1}, {0, -100, 101, -1},
		{3, -97, 101, -1}, {3, -96, 101, 3},
		// the greatest counter, and first counters beyond it
		{impl.MaxValue, impl.MaxValue, 1, impl.MaxValue}, {impl.MaxValue, impl.MaxValue, 100, impl.MaxValue},
		{impl.MaxValue, impl.MaxValue - 99, 100, impl.MaxValue}, {impl.MaxValue, impl.MaxValue - 100, 101, -1},
		{impl.MaxValue, impl.MaxValue + 1, 100, -1}, {impl.MaxValue - 1, impl.MaxValue, 100, -1}, {3, impl.MaxValue, 100, -1},
		// the ends of int, with first counters that go beyond it
		{3, math.MaxInt, 100, -1}, {3, math.MaxInt - 50, 100, -1}, {3, math.MaxInt, math.MaxInt, -1}, {3, math.MinInt, 100, -1},
		{3, math.MinInt, math.MaxInt, -1}, {3, math.MinInt, math.MinInt, -1}, {0, math.MaxInt, 2, -1}, {0, math.MinInt, 1, -1},
		// counters with the same hashes
		{3 + impl.Modulus, 0, 9, 3}, {3, impl.Modulus, 9, impl.Modulus + 3}, {3, impl.Modulus + 4, 9, -1}, {3, 3 - impl.Modulus, 9, -1},
	}
	for _, c := range cases {
		for _, key := range cellKeys {
			cell, _ := impl.SealCell(key, c.counter, p)
			checkFound(t, key, cell, c.first, c.count, c.want)
		}
	}
}

// The counter is found from every first one that is close enough, and with the key of the cell only.
func TestFindCounterEveryPlace(t *testing.T) {
	for _, counter := range []int{0, 5, 150, impl.MaxValue - 30, impl.MaxValue} {
		cell, _ := impl.SealCell(77, counter, plainOf(impl.FileKind, mixed(14, 3)))
		for distance := -5; distance < 110; distance++ {
			for _, count := range []int{-1, 0, 1, 2, 50, 99, 100, 101, 200} {
				want := -1
				if distance >= 0 && distance < min(count, 100) {
					want = counter
				}
				checkFound(t, 77, cell, counter-distance, count, want)
				checkFound(t, 78, cell, counter-distance, count, -1)
			}
		}
	}
}

// No counter is found for an invalid key, or for a cell that says nothing that is valid.
func TestFindCounterRejects(t *testing.T) {
	for _, key := range notCellKeys {
		cells := [][]byte{referenceCell(key, 3, plainOf(1, nil)), make([]byte, 24), nil}
		if valid := impl.Mod(key, impl.Modulus); valid != 0 {
			cell, _ := impl.SealCell(valid, 3, plainOf(impl.TextKind, []byte("hello")))
			cells = append(cells, cell)
		}
		for _, cell := range cells {
			for _, first := range []int{0, 3, -1, impl.MaxValue, math.MinInt, math.MaxInt} {
				checkFound(t, key, cell, first, 100, -1)
				checkFound(t, key, cell, first, 1, -1)
			}
		}
	}
	for _, counter := range notCounters {
		cell, _ := impl.SealCell(77, impl.Mod(counter, impl.Modulus), plainOf(impl.TextKind, []byte("hello")))
		checkFound(t, 77, cell, impl.Mod(counter, impl.Modulus), 1, impl.Mod(counter, impl.Modulus))
		checkFound(t, 77, cell, counter, 1, -1)
	}
	for _, key := range cellKeys {
		cell, _ := impl.SealCell(key, 3, plainOf(impl.TextKind, []byte("hello")))
		for length := range 60 {
			if length != 24 {
				checkFound(t, key, extended(cell, length)[:length], 0, 9, -1)
			}
		}
		checkFound(t, key, make([]byte, 24), 0, 100, -1)
	}
}

func TestCellsCopy(t *testing.T) {
	for _, p := range []impl.Plain{{}, plainOf(impl.TextKind, []byte("hello")), plainOf(impl.FileKind, mixed(13, 3)),
		plainOf(impl.FileKind, mixed(14, 3)), plainOf(-1, []byte("hello")), plainOf(1, mixed(15, 3))} {
		body, unchanged := roomy(p.Body)
		sealed, ok := impl.SealCell(77, 3, plainOf(p.Kind, body))
		if ok != impl.IsValidPlain(plainOf(p.Kind, body)) || !unchanged() {
			t.Errorf("SealCell or IsValidPlain of %v changes its argument", p)
		}
		want := slices.Clone(sealed)
		checkFresh(t, "SealCell", sealed, unchanged)
		if got, _ := impl.SealCell(77, 3, p); !bytes.Equal(got, want) {
			t.Errorf("SealCell of %v after an earlier result was written to = %v, want %v", p, got, want)
		}
		checkAgain(t, "SealCell", func() []byte { cell, _ := impl.SealCell(77, 3, p); return cell })
	}
	checkAgain(t, "CoverCell", func() []byte { return impl.CoverCell(5) })
}

func TestOpenedCellsCopy(t *testing.T) {
	good := referenceCell(77, 3, plainOf(impl.FileKind, mixed(14, 3)))
	short := referenceCell(77, 3, plainOf(impl.TextKind, nil))
	bad := sealBytes(77, 3, slices.Concat([]byte{4, 1}, mixed(18, 1)))
	for _, content := range [][]byte{good, short, bad, good[:20], good[:23], {}, extended(good, 25)} {
		cell, unchanged := roomy(content)
		p, ok := impl.OpenCell(77, 3, cell)
		want := slices.Clone(p.Body)
		checkFresh(t, "OpenCell", p.Body, unchanged)
		if again, okAgain := impl.OpenCell(77, 3, cell); okAgain != ok || !bytes.Equal(again.Body, want) {
			t.Errorf("OpenCell of %v after an earlier result was written to = %v, %v, want the body %v", content, again, okAgain, want)
		}
		checkAgain(t, "OpenCell", func() []byte { p, _ := impl.OpenCell(77, 3, cell); return p.Body })
		found := -1
		if ok {
			found = 3
		}
		checkFound(t, 77, cell, 0, 9, found)
		if got := impl.CellCheck(77, 3, cell); got != referenceCheck(77, 3, content) {
			t.Errorf("CellCheck of %v depends on the spare capacity: %d", content, got)
		}
		if !unchanged() {
			t.Errorf("FindCounter or CellCheck changes the cell %v or the spare capacity behind it", content)
		}
	}
}
