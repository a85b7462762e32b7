package tests

import (
	"bytes"
	"math"
	"math/rand/v2"
	"slices"
	"testing"

	"loop.example/g00516/impl"
)

// ratchetChains lists valid chain keys: the least and the greatest one, those whose message key or next chain
// key would be 0 or is 1 or the greatest key, the only one that is followed by itself, and others.
var ratchetChains = append([]int{394704355, 1416848083, 1520044274, 890051978, 1912195706, 2015391897, 10392640, 1810584126}, cellKeys...)

// ratchetSteps lists steps of valid ratchets, those about MaxKept, MaxSkip and MaxSteps among them.
var ratchetSteps = []int{0, 1, 2, 7, 8, 9, 10, 16, 17, 100, 50000, 99989, 99990, 99991, 99992, 99993, 99998, 99999, 100000}

// notRatchetSteps lists steps that no ratchet has, some of which are valid ones if a limit wraps around or
// higher bits are lost.
var notRatchetSteps = []int{-1, -2, -8, -9, -100000, 100001, 100002, 100008, 100009, 200000, 1 << 32, 1<<32 + 5, 5 - 1<<32, 1 << 62, impl.MaxValue,
	math.MinInt, math.MinInt + 1, math.MinInt + 8, math.MaxInt, math.MaxInt - 1, math.MaxInt - 7, math.MaxInt - 8, math.MaxInt - 9}

func skipped(step int, key int) impl.SkippedKey {
	return impl.SkippedKey{Step: step, Key: key}
}

func ratchet(chain int, step int, kept ...impl.SkippedKey) impl.Ratchet {
	return impl.Ratchet{Chain: chain, Step: step, Kept: kept}
}

// keptAt lists kept keys for these steps; the keys are valid, with equal ones among more than a few.
func keptAt(steps ...int) []impl.SkippedKey {
	kept := []impl.SkippedKey{}
	for i, step := range steps {
		kept = append(kept, skipped(step, cellKeys[i%len(cellKeys)]))
	}
	return kept
}

// stepsOf lists the steps of kept keys.
func stepsOf(kept []impl.SkippedKey) []int {
	steps := []int{}
	for _, k := range kept {
		steps = append(steps, k.Step)
	}
	return steps
}

// sameRatchet tells whether ratchets are equal; it does not use the package under test.
func sameRatchet(a impl.Ratchet, b impl.Ratchet) bool {
	return a.Chain == b.Chain && a.Step == b.Step && slices.Equal(a.Kept, b.Kept)
}

// keptLists lists what a valid ratchet at this step may keep: no key, one, and up to MaxKept, for the first
// steps, the last ones, those in the middle and scattered ones.
func keptLists(step int) [][]impl.SkippedKey {
	list := [][]impl.SkippedKey{nil, {}}
	for _, count := range []int{1, 2, 3, 7, 8} {
		if count <= step {
			list = append(list, keptAt(numbersFrom(0, count, 1)...), keptAt(numbersFrom(step-count, count, 1)...),
				keptAt(numbersFrom((step-count)/2, count, 1)...), keptAt(numbersFrom(0, count, step/count)...),
				keptAt(numbersFrom(step-1-(count-1)*(step/count), count, step/count)...))
		}
	}
	return list
}

// someRatchets lists valid ratchets.
func someRatchets() []impl.Ratchet {
	var list []impl.Ratchet
	for _, step := range ratchetSteps {
		for _, kept := range keptLists(step) {
			list = append(list, ratchet(ratchetChains[len(list)%len(ratchetChains)], step, kept...))
		}
	}
	return list
}

// notKept lists what no ratchet at this step, which is at least 20, may keep: too many keys, keys that are out
// of order, twice the same step, and invalid steps and keys at the first, a middle and the last place.
func notKept(step int) [][]impl.SkippedKey {
	list := [][]impl.SkippedKey{keptAt(numbersFrom(0, 9, 1)...), keptAt(numbersFrom(step-9, 9, 1)...), keptAt(numbersFrom(0, 9, 2)...),
		keptAt(numbersFrom(0, 10, 1)...), keptAt(numbersFrom(0, 16, 1)...), keptAt(numbersFrom(0, 1000, 1)...),
		keptAt(1, 0), keptAt(9, 3), keptAt(step-1, 0), keptAt(0, 2, 1), keptAt(2, 0, 1), keptAt(5, 4, 3), keptAt(numbersFrom(7, 8, -1)...),
		keptAt(0, 0), keptAt(3, 3), keptAt(step-1, step-1), keptAt(0, 3, 3), keptAt(3, 3, 5), keptAt(0, 3, 0), keptAt(slices.Repeat([]int{3}, 8)...),
		{skipped(3, 77), skipped(3, 77)}, {skipped(3, 77), skipped(3, 78)}, {skipped(3, 77), skipped(5, 77), skipped(3, 77)}}
	for _, bad := range append([]int{step, step + 1, step + 7, step + 8, step + 1<<32}, notRatchetSteps...) {
		list = append(list, keptAt(bad), keptAt(bad, 3), keptAt(3, bad), keptAt(3, bad, 9), keptAt(bad, bad), append(keptAt(0, 1, 2, 3, 4, 5, 6), skipped(bad, 77)))
	}
	for _, bad := range notCellKeys {
		list = append(list, []impl.SkippedKey{skipped(3, bad)}, []impl.SkippedKey{skipped(3, bad), skipped(5, 77)}, []impl.SkippedKey{skipped(3, 77), skipped(5, bad)},
			[]impl.SkippedKey{skipped(3, 77), skipped(5, bad), skipped(7, 78)}, append(keptAt(0, 1, 2, 3, 4, 5, 6), skipped(7, bad)), []impl.SkippedKey{skipped(step, bad)})
	}
	return list
}

// notRatchets lists ratchets that are not valid for one reason or for several.
func notRatchets() []impl.Ratchet {
	list := []impl.Ratchet{{}}
	for _, step := range []int{20, 99991, 99999, 100000} {
		for i, kept := range notKept(step) {
			list = append(list, ratchet(ratchetChains[i%len(ratchetChains)], step, kept...), ratchet(notCellKeys[i%len(notCellKeys)], step, kept...))
		}
	}
	for i, kept := range notKept(20) {
		list = append(list, ratchet(77, notRatchetSteps[i%len(notRatchetSteps)], kept...), ratchet(0, notRatchetSteps[i%len(notRatchetSteps)], kept...))
	}
	for i, chain := range notCellKeys {
		for _, step := range []int{0, 20, 99999, 100000, notRatchetSteps[i%len(notRatchetSteps)]} {
			list = append(list, ratchet(chain, step), ratchet(chain, step, keptAt(3, 5)...))
		}
	}
	for _, step := range notRatchetSteps {
		list = append(list, ratchet(77, step), ratchet(1, step, keptAt(0)...), ratchet(77, step, keptAt(3, 5)...), ratchet(77, step, keptAt(step-1)...), ratchet(77, step, keptAt(step)...))
	}
	// the ratchet at step 0 keeps nothing, that at step 1 only the key of step 0
	return append(list, ratchet(77, 0, keptAt(0)...), ratchet(77, 0, keptAt(-1)...), ratchet(77, 1, keptAt(1)...), ratchet(77, 1, keptAt(0, 1)...), ratchet(77, 1, keptAt(-1, 0)...))
}

// stepsFor lists steps to ask a ratchet for: its own and those about it, about its kept keys and about the
// limits, and steps that are one of these if higher bits are lost.
func stepsFor(r impl.Ratchet) []int {
	list := slices.Concat(notRatchetSteps, ratchetSteps, numbersFrom(r.Step-12, 32, 1), []int{r.Step + 1<<32, r.Step - 1<<32, r.Step + math.MinInt, -r.Step})
	for _, k := range r.Kept {
		list = append(list, k.Step-1, k.Step, k.Step+1, k.Step+1<<32, -k.Step)
	}
	slices.Sort(list)
	return slices.Compact(list)
}

// fewSteps lists the steps for which a valid ratchet may have a key, those next to them and the limits.
func fewSteps(r impl.Ratchet) []int {
	return slices.Concat(numbersFrom(r.Step-1, 11, 1), stepsOf(r.Kept[:min(len(r.Kept), 9)]), []int{-1, 99999, 100000, math.MinInt, math.MaxInt})
}

// someOf returns the first one of every count ratchets.
func someOf(list []impl.Ratchet, count int) []impl.Ratchet {
	var some []impl.Ratchet
	for i := 0; i < len(list); i += count {
		some = append(some, list[i])
	}
	return some
}

// referenceMessageKey is the key of a message as chapter 19 states it.
func referenceMessageKey(chain int) int {
	return max(referenceHash([]int{chain, 127, chain}), 1)
}

// chainKeys lists count chain keys from the first one on, each being the next one of the one before it as chapter
// 19 states it.
func chainKeys(first int, count int) []int {
	list := []int{}
	for chain := first; len(list) < count; chain = max(referenceHash([]int{chain, 131, chain}), 1) {
		list = append(list, chain)
	}
	return list
}

// messageKeys lists the keys of count messages from the step of this chain key on.
func messageKeys(chain int, count int) []int {
	list := []int{}
	for _, c := range chainKeys(chain, count) {
		list = append(list, referenceMessageKey(c))
	}
	return list
}

// referenceRatchet tells whether a ratchet is valid as chapter 19 states it.
func referenceRatchet(r impl.Ratchet) bool {
	for _, k := range r.Kept {
		if k.Key < 1 || k.Key > 2147483646 || k.Step < 0 || k.Step >= r.Step {
			return false
		}
	}
	ascending := slices.Compact(slices.Sorted(slices.Values(stepsOf(r.Kept))))
	return slices.Equal(ascending, stepsOf(r.Kept)) && len(r.Kept) <= 8 && r.Chain >= 1 && r.Chain <= 2147483646 && r.Step >= 0 && r.Step <= 100000
}

// referenceAdvance is what Advance returns as chapter 19 states it.
func referenceAdvance(r impl.Ratchet) (impl.Ratchet, int, bool) {
	if !referenceRatchet(r) || r.Step == 100000 {
		return r, 0, false
	}
	return ratchet(chainKeys(r.Chain, 2)[1], r.Step+1, r.Kept...), referenceMessageKey(r.Chain), true
}

// referenceKeyForStep is what KeyForStep returns as chapter 19 states it.
func referenceKeyForStep(r impl.Ratchet, step int) (impl.Ratchet, int, bool) {
	if !referenceRatchet(r) || step < 0 || step >= 100000 || step >= r.Step+9 {
		return r, 0, false
	}
	if step < r.Step {
		place := slices.Index(stepsOf(r.Kept), step)
		if place < 0 {
			return r, 0, false
		}
		return ratchet(r.Chain, r.Step, without(r.Kept, place)...), r.Kept[place].Key, true
	}
	skips := step - r.Step
	keys := messageKeys(r.Chain, skips+1)
	kept := slices.Clone(r.Kept)
	for i := range skips {
		kept = append(kept, skipped(r.Step+i, keys[i]))
	}
	return ratchet(chainKeys(r.Chain, skips+2)[skips+1], step+1, kept[max(0, len(kept)-8):]...), keys[skips], true
}

// referenceText is the text in a cell as chapter 13 states it; false if there is none.
func referenceText(key int, counter int, cell []byte) ([]byte, bool) {
	if len(cell) != 24 || !bytes.Equal(cell, withCheck(cell[:20], referenceCheck(key, counter, cell[:20]))) {
		return nil, false
	}
	plain := slices.Clone(cell[:20])
	cipher := referenceCipherKey(key, counter)
	for i := range plain {
		plain[i] -= byte(referenceHash([]int{cipher, i, cipher}) % 256)
	}
	if plain[0] != 1 || plain[1] > 14 {
		return nil, false
	}
	return plain[2 : 2+plain[1]], true
}

// referenceOpenStep is what OpenStep returns as chapter 19 states it.
func referenceOpenStep(r impl.Ratchet, step int, cell []byte) (impl.Ratchet, []byte, bool) {
	next, key, ok := referenceKeyForStep(r, step)
	body, okText := referenceText(key, step, cell)
	if !ok || !okText {
		return r, nil, false
	}
	return next, body, true
}

// stepCell is the cell of a text at this step with the chain key of the step as chapter 19 states it.
func stepCell(chain int, step int, body []byte) []byte {
	return referenceCell(referenceMessageKey(chain), step, plainOf(1, body))
}

// sealSteps seals the bodies one after the other and returns their cells, which must be those that the chapter
// states; r must be valid.
func sealSteps(t *testing.T, r impl.Ratchet, bodies [][]byte) [][]byte {
	t.Helper()
	var cells [][]byte
	for _, body := range bodies {
		next, step, cell, ok := impl.SealStep(r, body)
		want, _, _ := referenceAdvance(r)
		if !ok || step != r.Step || !bytes.Equal(cell, stepCell(r.Chain, step, body)) || !sameRatchet(next, want) {
			t.Fatalf("SealStep(%v, %v) = %v, %d, %v, %v", r, body, next, step, cell, ok)
		}
		cells = append(cells, cell)
		r = next
	}
	return cells
}

// manyBodies lists different bodies, of all lengths if there are as many.
func manyBodies(count int) [][]byte {
	var list [][]byte
	for i := range count {
		list = append(list, append(mixed(i%14, i), byte(i)))
	}
	return list
}

// rejectAdvanced stops the test if Advance does not return an equal ratchet, 0 and false.
func rejectAdvanced(t *testing.T, r impl.Ratchet) {
	t.Helper()
	if got, key, ok := impl.Advance(r); ok || key != 0 || !sameRatchet(got, r) {
		t.Fatalf("Advance(%s) = %s, %d, %v, want the same ratchet, 0, false", brief(r), brief(got), key, ok)
	}
}

// checkKeyForStep stops the test if KeyForStep returns something else than chapter 19 states, or a key that
// it returns again; it tells whether there was a key.
func checkKeyForStep(t *testing.T, r impl.Ratchet, step int) bool {
	t.Helper()
	got, key, ok := impl.KeyForStep(r, step)
	want, wantKey, wantOk := referenceKeyForStep(r, step)
	if ok != wantOk || key != wantKey || !sameRatchet(got, want) {
		t.Fatalf("KeyForStep(%s, %d) = %s, %d, %v, want %s, %d, %v", brief(r), step, brief(got), key, ok, brief(want), wantKey, wantOk)
	}
	if ok {
		if !impl.IsValidRatchet(got) {
			t.Fatalf("KeyForStep(%v, %d) returns %v, which is not valid", r, step, got)
		}
		rejectKeyForStep(t, got, step)
	}
	return ok
}

// rejectKeyForStep stops the test if KeyForStep does not return an equal ratchet, 0 and false.
func rejectKeyForStep(t *testing.T, r impl.Ratchet, step int) {
	t.Helper()
	if got, key, ok := impl.KeyForStep(r, step); ok || key != 0 || !sameRatchet(got, r) {
		t.Fatalf("KeyForStep(%s, %d) = %s, %d, %v, want the same ratchet, 0, false", brief(r), step, brief(got), key, ok)
	}
}

// rejectSealStep stops the test if SealStep does not return an equal ratchet, 0, an empty slice and false.
func rejectSealStep(t *testing.T, r impl.Ratchet, body []byte) {
	t.Helper()
	if got, step, cell, ok := impl.SealStep(r, body); ok || step != 0 || len(cell) != 0 || !sameRatchet(got, r) {
		t.Fatalf("SealStep(%s, %s) = %s, %d, %s, %v, want the same ratchet, 0, empty, false", brief(r), brief(body), brief(got), step, brief(cell), ok)
	}
}

// checkOpenStep stops the test if OpenStep does not return this body and the ratchet that chapter 19 states, or
// if that opens the message again. It returns the ratchet.
func checkOpenStep(t *testing.T, r impl.Ratchet, step int, cell []byte, body []byte) impl.Ratchet {
	t.Helper()
	got, gotBody, ok := impl.OpenStep(r, step, cell)
	want, _, _ := referenceKeyForStep(r, step)
	if !ok || !bytes.Equal(gotBody, body) || !sameRatchet(got, want) {
		t.Fatalf("OpenStep(%v, %d, %v) = %v, %v, %v, want %v, %v, true", r, step, cell, got, gotBody, ok, want, body)
	}
	if !impl.IsValidRatchet(got) {
		t.Fatalf("OpenStep(%v, %d, %v) returns %v, which is not valid", r, step, cell, got)
	}
	rejectOpenStep(t, got, step, cell)
	return got
}

// rejectOpenStep stops the test if OpenStep does not return an equal ratchet, an empty slice and false.
func rejectOpenStep(t *testing.T, r impl.Ratchet, step int, cell []byte) {
	t.Helper()
	if got, body, ok := impl.OpenStep(r, step, cell); ok || len(body) != 0 || !sameRatchet(got, r) {
		t.Fatalf("OpenStep(%s, %d, %s) = %s, %v, %v, want the same ratchet, empty, false", brief(r), step, brief(cell), brief(got), body, ok)
	}
}

func TestRatchetConstants(t *testing.T) {
	if impl.MaxSkip != 8 || impl.MaxKept != 8 || impl.MaxSteps != 100000 {
		t.Error(impl.MaxSkip, impl.MaxKept, impl.MaxSteps)
	}
}

func TestNewRatchet(t *testing.T) {
	check := func(key int, chain int) {
		t.Helper()
		if got := impl.NewRatchet(key); got.Chain != chain || got.Step != 0 || len(got.Kept) != 0 || !impl.IsValidRatchet(got) {
			t.Errorf("NewRatchet(%d) = %v, want the chain key %d", key, got, chain)
		}
	}
	for _, key := range ratchetChains {
		check(key, key)
	}
	for _, key := range notCellKeys {
		check(key, 1)
	}
	for i := range 1000 {
		check(i+1, i+1)
		check(-i, 1)
		check(impl.Modulus-1-i, impl.Modulus-1-i)
		check(impl.Modulus+i, 1)
	}
}

func TestIsValidRatchet(t *testing.T) {
	for _, r := range someRatchets() {
		if !referenceRatchet(r) || !impl.IsValidRatchet(r) {
			t.Errorf("IsValidRatchet(%v) is false", r)
		}
	}
	for _, r := range notRatchets() {
		if referenceRatchet(r) || impl.IsValidRatchet(r) {
			t.Errorf("IsValidRatchet(%s) is true", brief(r))
		}
	}
	for step := range 30 {
		for count := range 40 {
			for _, first := range []int{0, step - count, -1, 1} {
				r := ratchet(77, step, keptAt(numbersFrom(first, count, 1)...)...)
				if got := impl.IsValidRatchet(r); got != referenceRatchet(r) {
					t.Errorf("IsValidRatchet(%v) = %v", r, got)
				}
			}
		}
	}
	for _, key := range slices.Concat(cellKeys, notCellKeys, someKeys) {
		for _, r := range []impl.Ratchet{ratchet(key, 0), ratchet(key, 9, keptAt(3)...), ratchet(77, 9, skipped(3, key)), ratchet(key, 9, skipped(3, key))} {
			if got := impl.IsValidRatchet(r); got != (key >= 1 && key <= 2147483646) {
				t.Errorf("IsValidRatchet(%v) = %v", r, got)
			}
		}
	}
}

// Every number at every place among kept keys, few of them and MaxKept.
func TestIsValidRatchetAgainstReference(t *testing.T) {
	check := func(r impl.Ratchet) {
		t.Helper()
		if got := impl.IsValidRatchet(r); got != referenceRatchet(r) {
			t.Errorf("IsValidRatchet(%v) = %v", r, got)
		}
	}
	for step := -2; step <= 6; step++ {
		for a := -2; a <= 6; a++ {
			check(ratchet(77, step, keptAt(a)...))
			for b := -2; b <= 6; b++ {
				check(ratchet(77, step, keptAt(a, b)...))
				for c := -2; c <= 6; c++ {
					check(ratchet(77, step, keptAt(a, b, c)...))
					check(ratchet(77, 99996+step, keptAt(99996+a, 99996+b, 99996+c)...))
				}
			}
		}
	}
	for place := range 8 {
		for step := -1; step <= 20; step++ {
			for _, key := range []int{1, 77, impl.Modulus - 1, 0, impl.Modulus, -1} {
				r := ratchet(77, 18, keptAt(numbersFrom(2, 8, 2)...)...)
				r.Kept[place] = skipped(step, key)
				check(r)
			}
		}
	}
}

func TestMessageKeyAndNextChain(t *testing.T) {
	cases := []struct{ chain, message, next int }{
		{77, 448116686, 452116698}, {1, 1585866903, 1589866915}, {2, 864487411, 868487423}, {123456789, 694860300, 698860312},
		{impl.Modulus - 1, 881142240, 885142252}, {impl.Modulus - 2, 1602521732, 1606521744},
		// what is no valid key
		{0, 159762748, 163762760}, {-1, 881142240, 885142252}, {impl.Modulus, 159762748, 163762760}, {impl.Modulus + 1, 1585866903, 1589866915},
		{77 + impl.Modulus, 448116686, 452116698}, {77 - impl.Modulus, 448116686, 452116698}, {impl.MaxValue, 1132065981, 1136065993},
		{math.MinInt, 1602521732, 1606521744}, {math.MaxInt, 1585866903, 1589866915},
		// keys that would be 0, that are 1, and that are the greatest one
		{394704355, 1, 4000012}, {1416848083, 1, 4000013}, {890051978, 2143483635, 1}, {1912195706, 2143483636, 1},
		{1520044274, impl.Modulus - 1, 4000011}, {2015391897, 2143483634, impl.Modulus - 1}, {394704355 - impl.Modulus, 1, 4000012}, {890051978 + impl.Modulus, 2143483635, 1},
		// keys that are derived from themselves
		{1810584126, 1810584126, 1814584138}, {10392640, 6392628, 10392640},
	}
	for _, c := range cases {
		if message, next := impl.MessageKey(c.chain), impl.NextChain(c.chain); message != c.message || next != c.next {
			t.Errorf("MessageKey and NextChain of %d are %d and %d, want %d and %d", c.chain, message, next, c.message, c.next)
		}
	}
	if impl.KeyedHash(394704355, []int{127}) != 0 || impl.KeyedHash(890051978, []int{131}) != 0 {
		t.Error("the hashes that should be 0 are not")
	}
	for _, chain := range slices.Concat(someKeys, notCellKeys, ratchetChains, numbersFrom(-500, 1000, 1), numbersFrom(7, 1000, 2147481)) {
		want := chainKeys(chain, 2)[1]
		message, next := impl.MessageKey(chain), impl.NextChain(chain)
		if message != referenceMessageKey(chain) || next != want || !impl.IsValidKey(message) || !impl.IsValidKey(next) {
			t.Errorf("MessageKey and NextChain of %d are %d and %d, want %d and %d", chain, message, next, referenceMessageKey(chain), want)
		}
	}
}

func TestAdvance(t *testing.T) {
	cases := []struct {
		r    impl.Ratchet
		want impl.Ratchet
		key  int
	}{
		{ratchet(77, 0), ratchet(452116698, 1), 448116686},
		{ratchet(452116698, 1), ratchet(1471814499, 2), 1467814487},
		{ratchet(1471814499, 2), ratchet(1764691680, 3), 1760691668},
		{ratchet(1, 7), ratchet(1589866915, 8), 1585866903},
		{ratchet(impl.Modulus-1, 0), ratchet(885142252, 1), 881142240},
		// the kept keys stay
		{ratchet(77, 9, keptAt(3)...), ratchet(452116698, 10, keptAt(3)...), 448116686},
		{ratchet(77, 9, keptAt(0, 8)...), ratchet(452116698, 10, keptAt(0, 8)...), 448116686},
		{ratchet(77, 9, keptAt(numbersFrom(1, 8, 1)...)...), ratchet(452116698, 10, keptAt(numbersFrom(1, 8, 1)...)...), 448116686},
		// the last step
		{ratchet(77, 99999), ratchet(452116698, 100000), 448116686},
		{ratchet(77, 99998, keptAt(0, 99997)...), ratchet(452116698, 99999, keptAt(0, 99997)...), 448116686},
		// a key that would be 0
		{ratchet(394704355, 5), ratchet(4000012, 6), 1},
		{ratchet(890051978, 5), ratchet(1, 6), 2143483635},
	}
	for _, c := range cases {
		if got, key, ok := impl.Advance(c.r); !ok || key != c.key || !sameRatchet(got, c.want) {
			t.Errorf("Advance(%v) = %v, %d, %v, want %v, %d, true", c.r, got, key, ok, c.want, c.key)
		}
	}
	for _, r := range someRatchets() {
		got, key, ok := impl.Advance(r)
		want, wantKey, wantOk := referenceAdvance(r)
		if ok != wantOk || ok != (r.Step < 100000) || key != wantKey || !sameRatchet(got, want) || !impl.IsValidRatchet(got) {
			t.Errorf("Advance(%v) = %v, %d, %v, want %v, %d, %v", r, got, key, ok, want, wantKey, wantOk)
		}
	}
}

// Each reason for a refusal alone and several together.
func TestAdvanceRejects(t *testing.T) {
	for _, r := range notRatchets() {
		rejectAdvanced(t, r)
	}
	for _, kept := range keptLists(100000) {
		rejectAdvanced(t, ratchet(77, 100000, kept...))
		rejectAdvanced(t, ratchet(0, 100000, kept...))
	}
	for _, kept := range notKept(100000) {
		rejectAdvanced(t, ratchet(77, 100000, kept...))
	}
}

// A ratchet goes through all its steps, and each has another key.
func TestAdvanceThroughAllSteps(t *testing.T) {
	for _, chain := range []int{77, 1, impl.Modulus - 1} {
		r := impl.NewRatchet(chain)
		chains := chainKeys(chain, 100001)
		seen := map[int]int{}
		for step := range 100000 {
			next, key, ok := impl.Advance(r)
			if before, again := seen[key]; !ok || again || key != referenceMessageKey(chains[step]) || !sameRatchet(next, ratchet(chains[step+1], step+1)) {
				t.Fatalf("Advance(%v) = %v, %d, %v, and step %d has the key %d", r, next, key, ok, before, key)
			}
			seen[key] = step
			r = next
		}
		rejectAdvanced(t, r)
		rejectSealStep(t, r, nil)
		rejectKeyForStep(t, r, 100000)
	}
}

func TestKeyForStep(t *testing.T) {
	// the keys of the messages with the chain key 77 at step 0
	keys := []int{448116686, 1467814487, 1760691668, 1297544624, 668778958, 1280286043, 11841191, 1881851910, 1038927209, 467986513}
	kept := func(steps ...int) []impl.SkippedKey {
		list := []impl.SkippedKey{}
		for _, step := range steps {
			list = append(list, skipped(step, keys[step]))
		}
		return list
	}
	r := ratchet(1764691680, 3, kept(0, 1)...)
	cases := []struct {
		r    impl.Ratchet
		step int
		want impl.Ratchet
		key  int
	}{
		{ratchet(77, 0), 0, ratchet(452116698, 1), keys[0]},
		{ratchet(77, 0), 1, ratchet(1471814499, 2, kept(0)...), keys[1]},
		{ratchet(77, 0), 2, r, keys[2]},
		{ratchet(77, 0), 8, ratchet(1042927221, 9, kept(0, 1, 2, 3, 4, 5, 6, 7)...), keys[8]},
		// a kept key for the first, a middle and the last step
		{r, 0, ratchet(1764691680, 3, kept(1)...), keys[0]},
		{r, 1, ratchet(1764691680, 3, kept(0)...), keys[1]},
		{ratchet(1764691680, 3, kept(1)...), 1, ratchet(1764691680, 3), keys[1]},
		{ratchet(1301544636, 4, kept(0, 1, 3)...), 1, ratchet(1301544636, 4, kept(0, 3)...), keys[1]},
		{ratchet(1301544636, 4, kept(0, 1, 3)...), 3, ratchet(1301544636, 4, kept(0, 1)...), keys[3]},
		// kept keys are those that the ratchet has, not those that would be derived
		{ratchet(77, 9, skipped(3, 5), skipped(4, 6)), 4, ratchet(77, 9, skipped(3, 5)), 6},
		// further on
		{r, 3, ratchet(1301544636, 4, kept(0, 1)...), keys[3]},
		{r, 4, ratchet(672778970, 5, kept(0, 1, 3)...), keys[4]},
		{r, 9, ratchet(471986525, 10, kept(0, 1, 3, 4, 5, 6, 7, 8)...), keys[9]},
		{r, 10, ratchet(309005989, 11, append(kept(1, 3, 4, 5, 6, 7, 8), skipped(9, 467986513))...), 305005977},
		{r, 11, ratchet(1764012182, 12, append(kept(3, 4, 5, 6, 7, 8, 9), skipped(10, 305005977))...), 1760012170},
		// the last step
		{ratchet(77, 99999), 99999, ratchet(452116698, 100000), keys[0]},
		{ratchet(77, 99998), 99999, ratchet(1471814499, 100000, skipped(99998, keys[0])), keys[1]},
		{ratchet(77, 100000, skipped(99999, 5)), 99999, ratchet(77, 100000), 5},
		// keys that would be 0
		{ratchet(890051978, 5), 6, ratchet(1589866915, 7, skipped(5, 2143483635)), 1585866903},
		{ratchet(394704355, 5), 5, ratchet(4000012, 6), 1},
		{ratchet(394704355, 5, skipped(4, 1)), 4, ratchet(394704355, 5), 1},
	}
	for _, c := range cases {
		if got, key, ok := impl.KeyForStep(c.r, c.step); !ok || key != c.key || !sameRatchet(got, c.want) {
			t.Errorf("KeyForStep(%v, %d) = %v, %d, %v, want %v, %d, true", c.r, c.step, got, key, ok, c.want, c.key)
		}
		checkKeyForStep(t, c.r, c.step)
	}
}

func TestKeyForStepAgainstReference(t *testing.T) {
	found := 0
	for _, r := range someRatchets() {
		for _, step := range stepsFor(r) {
			if checkKeyForStep(t, r, step) {
				found++
			}
		}
	}
	if found < 1000 {
		t.Errorf("only %d keys were found", found)
	}
}

// At every step, the least and the greatest one that can be asked for, and those beyond them.
func TestKeyForStepLimits(t *testing.T) {
	for _, chain := range ratchetChains {
		for _, at := range ratchetSteps {
			r := ratchet(chain, at)
			for step := at - 30; step < at+30; step++ {
				if got, want := checkKeyForStep(t, r, step), step >= at && step <= at+8 && step < 100000; got != want {
					t.Errorf("KeyForStep(%v, %d) returns %v", r, step, got)
				}
			}
			for _, step := range []int{100000, 100001, at + 9, at + 10, at + 16, at + 100000, -1, at + 1<<32, at - 1<<32, at + math.MinInt, math.MinInt, math.MaxInt} {
				rejectKeyForStep(t, r, step)
			}
		}
	}
	// of the steps before, only those with a kept key
	for step := range 60 {
		r := ratchet(77, 50, keptAt(0, 7, 20, 21, 48, 49)...)
		if got, want := checkKeyForStep(t, r, step), slices.Contains([]int{0, 7, 20, 21, 48, 49}, step) || step >= 50 && step <= 58; got != want {
			t.Errorf("KeyForStep(%v, %d) returns %v", r, step, got)
		}
	}
}

// Each reason for a refusal alone and several together: nothing is skipped.
func TestKeyForStepRejects(t *testing.T) {
	for _, r := range notRatchets() {
		for _, step := range []int{r.Step, r.Step + 1, r.Step + 8, r.Step + 9, r.Step - 1, 0, 3, 5, 7, 99999, 100000, -1, math.MinInt, math.MaxInt} {
			rejectKeyForStep(t, r, step)
		}
		for _, k := range r.Kept[:min(len(r.Kept), 20)] {
			rejectKeyForStep(t, r, k.Step)
		}
	}
	for _, r := range someRatchets() {
		for _, step := range slices.Concat(notRatchetSteps, []int{100000, r.Step + 9, r.Step + 10, r.Step + 1<<32}) {
			rejectKeyForStep(t, r, step)
		}
		for step := r.Step - 20; step < r.Step; step++ {
			if !slices.Contains(stepsOf(r.Kept), step) {
				rejectKeyForStep(t, r, step)
			}
		}
	}
}

// Of the kept keys and those of the skipped steps, the last MaxKept are kept, whatever number there is of both.
func TestKeyForStepPushesOut(t *testing.T) {
	for _, at := range []int{8, 9, 20, 50000, 99990} {
		keys := messageKeys(77, 9)
		for count := range 9 {
			for skips := range 9 {
				for _, kept := range [][]impl.SkippedKey{keptAt(numbersFrom(0, count, 1)...), keptAt(numbersFrom(at-count, count, 1)...)} {
					all := slices.Clone(kept)
					for i := range skips {
						all = append(all, skipped(at+i, keys[i]))
					}
					pushed := max(0, count+skips-8)
					r := ratchet(77, at, kept...)
					got, key, ok := impl.KeyForStep(r, at+skips)
					if !ok || key != keys[skips] || got.Step != at+skips+1 || !slices.Equal(got.Kept, all[pushed:]) {
						t.Fatalf("KeyForStep(%v, %d) = %v, %d, %v, want the kept keys %v", r, at+skips, got, key, ok, all[pushed:])
					}
					for i, k := range all {
						if i < pushed {
							rejectKeyForStep(t, got, k.Step)
						} else if next, old, ok := impl.KeyForStep(got, k.Step); !ok || old != k.Key || !slices.Equal(next.Kept, without(all[pushed:], i-pushed)) {
							t.Fatalf("KeyForStep(%v, %d) = %v, %d, %v, want the key %d", got, k.Step, next, old, ok, k.Key)
						}
					}
				}
			}
		}
	}
}

// Advancing several times yields the keys and the chain key that asking for a step yields.
func TestKeyForStepAgainstAdvance(t *testing.T) {
	for _, r := range someRatchets() {
		advanced := r
		kept := slices.Clone(r.Kept)
		for skips := 0; skips <= 8 && r.Step+skips < 100000; skips++ {
			next, key, ok := impl.Advance(advanced)
			asked, askedKey, askedOk := impl.KeyForStep(r, r.Step+skips)
			if !ok || !askedOk || key != askedKey || next.Chain != asked.Chain || next.Step != asked.Step ||
				!slices.Equal(asked.Kept, kept[max(0, len(kept)-8):]) || !slices.Equal(next.Kept, r.Kept) {
				t.Fatalf("after %d steps from %v: %v, %d, %v, but %v, %d, %v for the step", skips, r, next, key, ok, asked, askedKey, askedOk)
			}
			kept = append(kept, skipped(r.Step+skips, key))
			advanced = next
		}
	}
}

// Steps are asked for in random order, many of them several times. Every key is that of its step and returned
// at most once, and the kept keys are the last ones of those that were skipped and not asked for.
func TestKeysAreReturnedOnce(t *testing.T) {
	random := rand.New(rand.NewPCG(19, 1))
	for _, chain := range ratchetChains {
		for _, reach := range []int{3, 9, 12, 30} {
			r := impl.NewRatchet(chain)
			keys := messageKeys(chain, 500)
			used := map[int]bool{}
			for range 300 {
				step := r.Step - random.IntN(reach+10) + random.IntN(reach)
				next, key, ok := impl.KeyForStep(r, step)
				if !checkKeyForStep(t, r, step) {
					continue
				}
				if !ok || used[step] || key != keys[step] {
					t.Fatalf("KeyForStep(%v, %d) = %v, %d, %v, want the key %d, which was used: %v", r, step, next, key, ok, keys[step], used[step])
				}
				used[step] = true
				for _, k := range next.Kept {
					if used[k.Step] || k.Key != keys[k.Step] {
						t.Fatalf("KeyForStep(%v, %d) keeps %v, which was used: %v", r, step, k, used[k.Step])
					}
				}
				r = next
			}
			for step := range used {
				rejectKeyForStep(t, r, step)
			}
		}
	}
}

func TestSealStep(t *testing.T) {
	cases := []struct {
		r    impl.Ratchet
		body []byte
		want impl.Ratchet
		cell []byte
	}{
		{ratchet(77, 0), []byte("a"), ratchet(452116698, 1),
			[]byte{13, 80, 243, 2, 100, 5, 228, 3, 95, 251, 213, 238, 70, 220, 177, 197, 23, 168, 120, 135, 180, 224, 41, 107}},
		{ratchet(452116698, 1), nil, ratchet(1471814499, 2),
			[]byte{23, 89, 74, 161, 54, 11, 30, 112, 0, 208, 222, 42, 182, 128, 137, 208, 86, 27, 31, 97, 53, 105, 110, 16}},
		{ratchet(1471814499, 2, keptAt(1)...), []byte("hello"), ratchet(1764691680, 3, keptAt(1)...),
			[]byte{219, 34, 200, 8, 82, 149, 219, 216, 156, 159, 225, 97, 33, 30, 91, 214, 144, 137, 192, 54, 37, 154, 69, 27}},
		{ratchet(1, 0), []byte("hello"), ratchet(1589866915, 1),
			[]byte{37, 108, 18, 82, 156, 223, 37, 113, 19, 243, 18, 111, 11, 231, 0, 89, 240, 198, 218, 45, 66, 100, 60, 63}},
		// the last message and the longest body
		{ratchet(impl.Modulus-1, 99999, keptAt(0, 99998)...), []byte{0, 1, 2, 3, 4, 5, 6, 7, 8, 9, 10, 11, 12, 13}, ratchet(885142252, 100000, keptAt(0, 99998)...),
			[]byte{205, 29, 82, 150, 218, 30, 98, 166, 234, 46, 114, 182, 250, 62, 130, 198, 235, 243, 58, 191, 4, 13, 86, 100}},
		// a chain key that would be 0
		{ratchet(890051978, 0), []byte("x"), ratchet(1, 1),
			[]byte{208, 19, 205, 98, 52, 68, 147, 33, 237, 248, 66, 202, 146, 152, 220, 95, 34, 34, 98, 224, 174, 128, 15, 41}},
	}
	for _, c := range cases {
		got, step, cell, ok := impl.SealStep(c.r, c.body)
		if !ok || step != c.r.Step || !bytes.Equal(cell, c.cell) || !sameRatchet(got, c.want) {
			t.Errorf("SealStep(%v, %v) = %v, %d, %v, %v, want %v, %d, %v, true", c.r, c.body, got, step, cell, ok, c.want, c.r.Step, c.cell)
		}
		checkOpenStep(t, c.r, c.r.Step, c.cell, c.body)
	}
}

func TestSealStepAgainstReference(t *testing.T) {
	for _, r := range someRatchets() {
		for _, body := range someBodies() {
			if r.Step == 100000 {
				rejectSealStep(t, r, body)
				continue
			}
			cell := sealSteps(t, r, [][]byte{body})[0]
			checkOpened(t, impl.MessageKey(r.Chain), r.Step, cell, plainOf(impl.TextKind, body))
		}
	}
	for length := range 15 {
		sealSteps(t, ratchet(77, 9, keptAt(3)...), [][]byte{mixed(length, 7), make([]byte, length)})
	}
}

// Each reason for a refusal alone and several together.
func TestSealStepRejects(t *testing.T) {
	for i, r := range notRatchets() {
		for _, body := range [][]byte{nil, {}, []byte("hello"), mixed(14, 3), mixed(15, 3), notBodies()[i%len(notBodies())]} {
			rejectSealStep(t, r, body)
		}
	}
	for _, r := range someRatchets() {
		for _, body := range notBodies() {
			rejectSealStep(t, r, body)
		}
	}
	for _, kept := range keptLists(100000) {
		for _, body := range slices.Concat(someBodies(), notBodies()) {
			rejectSealStep(t, ratchet(77, 100000, kept...), body)
		}
	}
}

// After a refusal, the next message has the step and the key that it would have had without it.
func TestSealStepGoesOn(t *testing.T) {
	r := impl.NewRatchet(77)
	for step, chain := range chainKeys(77, 50) {
		r, _, _, _ = impl.SealStep(r, mixed(15+step, 3))
		r, _, _, _ = impl.SealStep(r, mixed(1000, step))
		next, got, cell, ok := impl.SealStep(r, mixed(step%15, step))
		if !ok || got != step || !bytes.Equal(cell, stepCell(chain, step, mixed(step%15, step))) || next.Step != step+1 {
			t.Fatalf("SealStep(%v, %v) = %v, %d, %v, %v", r, mixed(step%15, step), next, got, cell, ok)
		}
		r = next
	}
}

func TestOpenStep(t *testing.T) {
	cells := sealSteps(t, impl.NewRatchet(77), [][]byte{[]byte("a"), {}, []byte("hello"), mixed(14, 3)})
	r := checkOpenStep(t, impl.NewRatchet(77), 2, cells[2], []byte("hello"))
	if want := ratchet(1764691680, 3, skipped(0, 448116686), skipped(1, 1467814487)); !sameRatchet(r, want) {
		t.Fatalf("after the message of step 2 the ratchet is %v, want %v", r, want)
	}
	r = checkOpenStep(t, r, 0, cells[0], []byte("a"))
	if want := ratchet(1764691680, 3, skipped(1, 1467814487)); !sameRatchet(r, want) {
		t.Fatalf("after the message of step 0 the ratchet is %v, want %v", r, want)
	}
	r = checkOpenStep(t, r, 3, cells[3], mixed(14, 3))
	if want := ratchet(1301544636, 4, skipped(1, 1467814487)); !sameRatchet(r, want) {
		t.Fatalf("after the message of step 3 the ratchet is %v, want %v", r, want)
	}
	r = checkOpenStep(t, r, 1, cells[1], nil)
	if want := ratchet(1301544636, 4); !sameRatchet(r, want) {
		t.Fatalf("after all messages the ratchet is %v, want %v", r, want)
	}
	for step, cell := range cells {
		rejectOpenStep(t, r, step, cell)
	}
}

// orders lists all orders of the numbers from 0 to count-1.
func orders(count int) [][]int {
	if count == 0 {
		return [][]int{{}}
	}
	var list [][]int
	for _, order := range orders(count - 1) {
		for place := range count {
			list = append(list, slices.Insert(slices.Clone(order), place, count-1))
		}
	}
	return list
}

// checkOrder opens the messages from the step of r on in this order. Each is opened once; the others wait as
// kept keys, and none that was opened does. It returns the last ratchet.
func checkOrder(t *testing.T, r impl.Ratchet, cells [][]byte, bodies [][]byte, order []int) impl.Ratchet {
	t.Helper()
	first := r
	keys := messageKeys(r.Chain, len(cells))
	opened := map[int]bool{}
	for _, i := range order {
		r = checkOpenStep(t, r, first.Step+i, cells[i], bodies[i])
		opened[i] = true
		want := []impl.SkippedKey{}
		for waiting := range r.Step - first.Step {
			if opened[waiting] {
				rejectOpenStep(t, r, first.Step+waiting, cells[waiting])
			} else {
				want = append(want, skipped(first.Step+waiting, keys[waiting]))
			}
		}
		if !slices.Equal(r.Kept, want) {
			t.Fatalf("after %d in the order %v the ratchet is %v, want the kept keys %v", i, order, r, want)
		}
	}
	return r
}

func TestMessagesInEveryOrder(t *testing.T) {
	for _, count := range []int{1, 2, 3, 4, 5, 6} {
		for i, order := range orders(count) {
			r := ratchet(ratchetChains[i%len(ratchetChains)], []int{0, 5, 99994}[i%3])
			bodies := manyBodies(count)
			last := checkOrder(t, r, sealSteps(t, r, bodies), bodies, order)
			if want := ratchet(chainKeys(r.Chain, count+1)[count], r.Step+count); !sameRatchet(last, want) {
				t.Fatalf("after the order %v the ratchet is %v, want %v", order, last, want)
			}
		}
	}
}

// Of MaxSkip+1 messages, the last one may arrive first.
func TestMessagesInOrdersWithinMaxSkip(t *testing.T) {
	random := rand.New(rand.NewPCG(19, 2))
	bodies := manyBodies(9)
	list := [][]int{{8, 7, 6, 5, 4, 3, 2, 1, 0}, {8, 0, 1, 2, 3, 4, 5, 6, 7}, {0, 8, 1, 7, 2, 6, 3, 5, 4}, {1, 0, 3, 2, 5, 4, 7, 6, 8}, numbersFrom(0, 9, 1)}
	for range 1000 {
		list = append(list, random.Perm(9))
	}
	for i, order := range list {
		r := ratchet(ratchetChains[i%len(ratchetChains)], []int{0, 1, 77, 99991}[i%4])
		last := checkOrder(t, r, sealSteps(t, r, bodies), bodies, order)
		if want := ratchet(chainKeys(r.Chain, 10)[9], r.Step+9); !sameRatchet(last, want) {
			t.Fatalf("after the order %v the ratchet is %v, want %v", order, last, want)
		}
	}
}

// One message more is too far ahead, and the others are opened nevertheless.
func TestMessagesBeyondMaxSkip(t *testing.T) {
	bodies := manyBodies(12)
	for _, chain := range ratchetChains {
		for _, at := range []int{0, 5, 99988} {
			r := ratchet(chain, at)
			cells := sealSteps(t, r, bodies)
			for _, i := range []int{9, 10, 11} {
				rejectOpenStep(t, r, at+i, cells[i])
			}
			r = checkOpenStep(t, r, at, cells[0], bodies[0])
			rejectOpenStep(t, r, at+10, cells[10])
			r = checkOpenStep(t, r, at+9, cells[9], bodies[9])
			rejectOpenStep(t, r, at, cells[0])
			// the skip of one more pushes out nothing yet, and that of another one the oldest key
			full := checkOpenStep(t, r, at+10, cells[10], bodies[10])
			if !slices.Equal(stepsOf(full.Kept), numbersFrom(at+1, 8, 1)) {
				t.Fatalf("%v does not keep the keys of the steps from %d on", full, at+1)
			}
			pushed := checkOpenStep(t, r, at+11, cells[11], bodies[11])
			if !slices.Equal(stepsOf(pushed.Kept), append(numbersFrom(at+2, 7, 1), at+10)) {
				t.Fatalf("%v does not keep the keys of the steps from %d on", pushed, at+2)
			}
			rejectOpenStep(t, pushed, at+1, cells[1])
			checkOpenStep(t, full, at+1, cells[1], bodies[1])
			checkOpenStep(t, pushed, at+2, cells[2], bodies[2])
			checkOpenStep(t, pushed, at+10, cells[10], bodies[10])
		}
	}
}

// Messages arrive in random order, some several times, some never, some changed on the way. Each is opened at
// most once, and the first time it arrives it is opened unless it is too far ahead or its key was pushed out.
func TestMessagesInRandomOrder(t *testing.T) {
	random := rand.New(rand.NewPCG(19, 3))
	for _, chain := range ratchetChains {
		for _, at := range []int{0, 99900} {
			bodies := manyBodies(100)
			first := ratchet(chain, at)
			cells := sealSteps(t, first, bodies)
			r := first
			opened := map[int]bool{}
			for range 600 {
				i := r.Step - at - 14 + random.IntN(26)
				if i < 0 || i >= 100 {
					continue
				}
				changed := slices.Clone(cells[i])
				changed[random.IntN(24)] ^= byte(1 + random.IntN(255))
				rejectOpenStep(t, r, at+i, changed)
				expected := i >= r.Step-at && i <= r.Step-at+8 || slices.Contains(stepsOf(r.Kept), at+i)
				if !expected || opened[i] {
					rejectOpenStep(t, r, at+i, cells[i])
					continue
				}
				r = checkOpenStep(t, r, at+i, cells[i], bodies[i])
				opened[i] = true
				for _, k := range r.Kept {
					if opened[k.Step-at] {
						t.Fatalf("%v keeps the key of a message that was opened, that of step %d", r, k.Step)
					}
				}
			}
			if len(opened) < 30 {
				t.Errorf("only %d messages of the chain key %d were opened", len(opened), chain)
			}
		}
	}
}

// A whole conversation in order, in which the friend is as far as the sender after every message.
func TestMessagesInOrder(t *testing.T) {
	for _, chain := range ratchetChains {
		s, r := impl.NewRatchet(chain), impl.NewRatchet(chain)
		for step := range 300 {
			body := mixed(step%15, step)
			next, at, cell, ok := impl.SealStep(s, body)
			if !ok || at != step {
				t.Fatalf("SealStep(%v, %v) = %v, %d, %v, %v", s, body, next, at, cell, ok)
			}
			s, r = next, checkOpenStep(t, r, at, cell, body)
			if !sameRatchet(s, r) || !impl.EqualRatchets(s, r) {
				t.Fatalf("after step %d the ratchets are %v and %v", step, s, r)
			}
		}
	}
}

// A cell is opened at its own step only, and with its own ratchet only.
func TestOpenStepOfAnotherMessage(t *testing.T) {
	bodies := manyBodies(9)
	for _, chain := range []int{1, 77, impl.Modulus - 1, 394704355, 890051978} {
		for _, at := range []int{0, 50, 99991} {
			r := ratchet(chain, at)
			cells := sealSteps(t, r, bodies)
			strange := sealSteps(t, ratchet(chain^4, at), bodies)
			far := checkOpenStep(t, r, at+8, cells[8], bodies[8])
			for i := range cells {
				for j := range cells {
					if i != j {
						rejectOpenStep(t, r, at+i, cells[j])
						rejectOpenStep(t, far, at+i, cells[j])
					}
				}
				rejectOpenStep(t, r, at+i, strange[i])
				rejectOpenStep(t, far, at+i, strange[i])
				// the key of the step, but the counter of another one
				key := messageKeys(chain, 9)[i]
				for _, counter := range []int{at + i + 1, at + i + 8, 0, at + i + 100000} {
					if counter != at+i {
						rejectOpenStep(t, r, at+i, referenceCell(key, counter, plainOf(1, bodies[i])))
					}
				}
				// the chain key in place of the message key
				rejectOpenStep(t, r, at+i, referenceCell(chainKeys(chain, 9)[i], at+i, plainOf(1, bodies[i])))
			}
		}
	}
}

// Each byte changed to every other value: nothing is skipped, and the message itself is opened afterwards.
func TestOpenStepChanged(t *testing.T) {
	bodies := manyBodies(6)
	r := ratchet(77, 20, keptAt(3, 5)...)
	cells := sealSteps(t, r, bodies)
	later := checkOpenStep(t, r, 25, cells[5], bodies[5])
	for _, changed := range changedCells(cells[4]) {
		rejectOpenStep(t, r, 24, changed)
		rejectOpenStep(t, later, 24, changed)
	}
	checkOpenStep(t, r, 24, cells[4], bodies[4])
	checkOpenStep(t, later, 24, cells[4], bodies[4])
	for seed := range 300 {
		rejectOpenStep(t, r, 20+seed%9, impl.CoverCell(seed))
	}
}

// Cells of every other length, in front of which or at the beginning of which a message is.
func TestOpenStepSizes(t *testing.T) {
	r := ratchet(77, 20, append(keptAt(3), skipped(5, 78))...)
	ahead, kept := stepCell(77, 20, []byte("hello")), referenceCell(78, 5, plainOf(1, []byte("hello")))
	for step, cell := range map[int][]byte{20: ahead, 5: kept} {
		for _, other := range otherSizes(cell) {
			rejectOpenStep(t, r, step, other)
		}
		rejectOpenStep(t, r, step, make([]byte, 24))
		checkOpenStep(t, r, step, cell, []byte("hello"))
	}
}

// checkHeads passes cells with a correct check value to accept, with their body, if they say a text, whatever the
// padding is, and to reject if their kind is another one or their length is beyond its limit.
func checkHeads(key int, counter int, accept func(cell []byte, body []byte), reject func(cell []byte)) {
	for c := range 256 {
		plain := append([]byte{1, 5}, mixed(18, 3)...)
		plain[19] = byte(c)
		accept(sealBytes(key, counter, plain), mixed(5, 3))
		if c != 1 {
			plain[0] = byte(c)
			reject(sealBytes(key, counter, plain))
		}
		plain[0], plain[1] = 1, byte(c)
		if c <= 14 {
			accept(sealBytes(key, counter, plain), plain[2:2+c])
		} else {
			reject(sealBytes(key, counter, plain))
		}
	}
}

// Cells that open with the key of the step, but say something else than a text.
func TestOpenStepOfOtherKinds(t *testing.T) {
	for _, chain := range ratchetChains {
		r := ratchet(chain, 20, append(keptAt(3), skipped(5, 78))...)
		keys := messageKeys(chain, 9)
		for _, p := range somePlains() {
			ahead, kept := referenceCell(keys[4], 24, p), referenceCell(78, 5, p)
			checkOpened(t, keys[4], 24, ahead, p)
			checkOpened(t, 78, 5, kept, p)
			if p.Kind == 1 {
				checkOpenStep(t, r, 24, ahead, p.Body)
				checkOpenStep(t, r, 5, kept, p.Body)
			} else {
				rejectOpenStep(t, r, 24, ahead)
				rejectOpenStep(t, r, 5, kept)
			}
		}
	}
	checkHeads(referenceMessageKey(77), 20, func(cell []byte, body []byte) { checkOpenStep(t, ratchet(77, 20), 20, cell, body) },
		func(cell []byte) { rejectOpenStep(t, ratchet(77, 20), 20, cell) })
}

// Each reason for a refusal alone and several together. The cells are those that would be opened if the
// ratchet were valid or the step could be asked for.
func TestOpenStepRejects(t *testing.T) {
	for _, r := range notRatchets() {
		for i, key := range messageKeys(r.Chain, 10) {
			rejectOpenStep(t, r, r.Step+i, referenceCell(key, r.Step+i, plainOf(1, []byte("hello"))))
		}
		for _, k := range r.Kept[:min(len(r.Kept), 12)] {
			rejectOpenStep(t, r, k.Step, referenceCell(k.Key, k.Step, plainOf(1, []byte("hello"))))
		}
		rejectOpenStep(t, r, r.Step, nil)
		rejectOpenStep(t, r, r.Step+9, make([]byte, 24))
		rejectOpenStep(t, r, math.MaxInt, referenceCell(1, math.MaxInt, plainOf(1, nil)))
	}
	for _, r := range someRatchets() {
		keys := messageKeys(r.Chain, 20)
		for i := 9; i < 20; i++ {
			rejectOpenStep(t, r, r.Step+i, referenceCell(keys[i], r.Step+i, plainOf(1, []byte("hello"))))
		}
		for step := 100000; step < r.Step+20; step++ {
			rejectOpenStep(t, r, step, referenceCell(keys[step-r.Step], step, plainOf(1, []byte("hello"))))
		}
		for _, step := range slices.Concat(notRatchetSteps, []int{100000, r.Step - 1<<32}) {
			for _, key := range []int{keys[0], keys[1], 1, 77} {
				rejectOpenStep(t, r, step, referenceCell(key, step, plainOf(1, []byte("hello"))))
			}
		}
		for step := r.Step - 12; step < r.Step; step++ {
			if !slices.Contains(stepsOf(r.Kept), step) {
				rejectOpenStep(t, r, step, referenceCell(keys[0], step, plainOf(1, []byte("hello"))))
				rejectOpenStep(t, r, step, referenceCell(1, step, plainOf(1, []byte("hello"))))
			}
		}
	}
}

// A step without a key opens nothing, also nothing that was sealed with 0.
func TestOpenStepWithoutKey(t *testing.T) {
	for _, r := range slices.Concat(someRatchets(), notRatchets()) {
		for _, step := range []int{r.Step - 1, r.Step, r.Step + 8, r.Step + 9, -1, 3, 100000} {
			rejectOpenStep(t, r, step, referenceCell(0, step, plainOf(1, []byte("hello"))))
		}
	}
}

func TestOpenStepAgainstReference(t *testing.T) {
	for _, r := range append(someRatchets(), someOf(notRatchets(), 5)...) {
		for i, step := range fewSteps(r) {
			key := 1 + i
			if _, found, ok := referenceKeyForStep(r, step); ok {
				key = found
			}
			for kind := range 3 {
				cell := referenceCell(key, step, plainOf(kind, mixed(i%15, i)))
				got, body, ok := impl.OpenStep(r, step, cell)
				want, wantBody, wantOk := referenceOpenStep(r, step, cell)
				if ok != wantOk || !bytes.Equal(body, wantBody) || !sameRatchet(got, want) {
					t.Fatalf("OpenStep(%s, %d, %v) = %s, %v, %v, want %s, %v, %v", brief(r), step, cell, brief(got), body, ok, brief(want), wantBody, wantOk)
				}
			}
		}
	}
}

// checkEqualRatchets reports an error if EqualRatchets, in one order or the other, does not return want.
func checkEqualRatchets(t *testing.T, a impl.Ratchet, b impl.Ratchet, want bool) {
	t.Helper()
	if impl.EqualRatchets(a, b) != want || impl.EqualRatchets(b, a) != want {
		t.Errorf("EqualRatchets(%s, %s) is not %v", brief(a), brief(b), want)
	}
}

func TestEqualRatchets(t *testing.T) {
	list := slices.Concat(someRatchets()[:60], notRatchets()[:200], notRatchets()[len(notRatchets())-60:])
	for _, a := range list {
		for _, b := range list {
			checkEqualRatchets(t, a, b, sameRatchet(a, b))
		}
	}
	for _, r := range slices.Concat(someRatchets(), notRatchets()) {
		checkEqualRatchets(t, r, ratchet(r.Chain, r.Step, slices.Clone(r.Kept)...), true)
		for _, difference := range []int{1, -1, 1 << 32, math.MinInt, impl.Modulus} {
			checkEqualRatchets(t, r, ratchet(r.Chain+difference, r.Step, r.Kept...), false)
			checkEqualRatchets(t, r, ratchet(r.Chain, r.Step+difference, r.Kept...), false)
			checkEqualRatchets(t, r, ratchet(r.Chain+difference, r.Step-difference, r.Kept...), false)
			for place := range min(len(r.Kept), 9) {
				other := slices.Clone(r.Kept)
				other[place].Key += difference
				checkEqualRatchets(t, r, ratchet(r.Chain, r.Step, other...), false)
				other[place].Key = r.Kept[place].Key
				other[place].Step += difference
				checkEqualRatchets(t, r, ratchet(r.Chain, r.Step, other...), false)
			}
		}
		for place := range min(len(r.Kept), 9) {
			checkEqualRatchets(t, r, ratchet(r.Chain, r.Step, without(r.Kept, place)...), false)
			checkEqualRatchets(t, r, ratchet(r.Chain, r.Step, r.Kept[:place]...), false)
			checkEqualRatchets(t, r, ratchet(r.Chain, r.Step, slices.Insert(slices.Clone(r.Kept), place, skipped(0, 0))...), false)
		}
		checkEqualRatchets(t, r, ratchet(r.Chain, r.Step, append(slices.Clone(r.Kept), skipped(0, 0))...), false)
	}
	checkEqualRatchets(t, impl.Ratchet{}, ratchet(0, 0, []impl.SkippedKey{}...), true)
	checkEqualRatchets(t, ratchet(77, 9, keptAt(3, 5)...), ratchet(77, 9, keptAt(5, 3)...), false)
	checkEqualRatchets(t, ratchet(77, 9, skipped(3, 5)), ratchet(77, 9, skipped(5, 3)), false)
	checkEqualRatchets(t, ratchet(77, 9), ratchet(9, 77), false)
}

// roomyRatchet returns a ratchet with the content of r and spare capacity behind its kept keys, and a function
// that tells whether all of it is as it was.
func roomyRatchet(r impl.Ratchet) (impl.Ratchet, func() bool) {
	whole := append(slices.Clone(r.Kept), slices.Repeat([]impl.SkippedKey{skipped(165, 165)}, 20)...)
	before := slices.Clone(whole)
	return ratchet(r.Chain, r.Step, whole[:len(r.Kept)]...), func() bool { return slices.Equal(whole, before) }
}

// checkFreshRatchet writes over the kept keys of a result and their spare capacity and reports an error if an
// argument changes by that, or has changed already.
func checkFreshRatchet(t *testing.T, name string, result impl.Ratchet, unchanged func() bool) {
	t.Helper()
	if !unchanged() {
		t.Errorf("%s changes its argument or the spare capacity behind it", name)
	}
	whole := result.Kept[:cap(result.Kept)]
	for i := range whole {
		whole[i] = skipped(77, 77)
	}
	if !unchanged() {
		t.Errorf("the result of %s shares memory with an argument", name)
	}
}

func TestRatchetsCopy(t *testing.T) {
	for _, r := range append(someRatchets(), notRatchets()...) {
		own, unchanged := roomyRatchet(r)
		if impl.IsValidRatchet(own) != referenceRatchet(r) || !impl.EqualRatchets(own, r) || !impl.EqualRatchets(r, own) || !unchanged() {
			t.Errorf("IsValidRatchet or EqualRatchets of %v goes by the spare capacity or changes it", r)
		}
		got, _, _ := impl.Advance(own)
		checkFreshRatchet(t, "Advance", got, unchanged)
		want, _, _ := referenceAdvance(r)
		if again, _, _ := impl.Advance(own); !sameRatchet(again, want) {
			t.Errorf("Advance(%v) after an earlier result was written to is %v, want %v", r, again, want)
		}
		for _, step := range fewSteps(r) {
			got, _, _ := impl.KeyForStep(own, step)
			checkFreshRatchet(t, "KeyForStep", got, unchanged)
			want, _, _ := referenceKeyForStep(r, step)
			if again, _, _ := impl.KeyForStep(own, step); !sameRatchet(again, want) {
				t.Errorf("KeyForStep(%v, %d) after an earlier result was written to is %v, want %v", r, step, again, want)
			}
		}
		if !sameRatchet(own, r) {
			t.Errorf("%v became %v", r, own)
		}
	}
}

func TestSealedStepsCopy(t *testing.T) {
	for _, r := range append(someRatchets(), notRatchets()...) {
		for _, content := range [][]byte{nil, []byte("hello"), mixed(14, 3), mixed(15, 3)} {
			own, unchanged := roomyRatchet(r)
			body, bodyUnchanged := roomy(content)
			got, _, cell, ok := impl.SealStep(own, body)
			want, _, wantOk := referenceAdvance(r)
			if !wantOk || len(content) > 14 {
				want, wantOk = r, false
			}
			before := slices.Clone(cell)
			checkFreshRatchet(t, "SealStep", got, unchanged)
			checkFresh(t, "SealStep", cell, bodyUnchanged)
			if again, _, cell, okAgain := impl.SealStep(own, body); !sameRatchet(again, want) || !bytes.Equal(cell, before) || ok != wantOk || okAgain != wantOk {
				t.Errorf("SealStep(%v, %v) after an earlier result was written to is %v, %v, %v, want %v", r, content, again, cell, okAgain, want)
			}
			if !sameRatchet(own, r) || !unchanged() {
				t.Errorf("%v became %v", r, own)
			}
		}
	}
}

func TestOpenedStepsCopy(t *testing.T) {
	for _, r := range append(someOf(someRatchets(), 2), someOf(notRatchets(), 11)...) {
		for _, step := range fewSteps(r) {
			_, key, _ := referenceKeyForStep(r, step)
			good := referenceCell(key, step, plainOf(1, []byte("hello")))
			for _, content := range [][]byte{good, referenceCell(key, step, plainOf(2, []byte("hello"))), good[:23], nil} {
				own, unchanged := roomyRatchet(r)
				cell, cellUnchanged := roomy(content)
				got, body, ok := impl.OpenStep(own, step, cell)
				want, wantBody, wantOk := referenceOpenStep(r, step, content)
				if !sameRatchet(got, want) || !bytes.Equal(body, wantBody) || ok != wantOk {
					t.Fatalf("OpenStep(%v, %d, %v) = %v, %v, %v, want %v, %v, %v", r, step, content, got, body, ok, want, wantBody, wantOk)
				}
				checkFreshRatchet(t, "OpenStep", got, unchanged)
				checkFresh(t, "OpenStep", body, cellUnchanged)
				if again, body, okAgain := impl.OpenStep(own, step, cell); !sameRatchet(again, want) || !bytes.Equal(body, wantBody) || okAgain != wantOk {
					t.Errorf("OpenStep(%v, %d, %v) after an earlier result was written to is %v, %v, %v, want %v", r, step, content, again, body, okAgain, want)
				}
				if !sameRatchet(own, r) || !unchanged() || !cellUnchanged() {
					t.Errorf("%v became %v, or the cell changed", r, own)
				}
			}
		}
	}
}

// Two persons agree on a key by an invitation and use it for the ratchet of one direction.
func TestRatchetOfTwoPersons(t *testing.T) {
	a, b := impl.NewIdentity(100), impl.NewIdentity(200)
	call, _ := impl.MakeInvitation(a, b.Public, 5)
	_, key, ok := impl.OpenInvitation(b, []int{a.Public}, 5, call)
	if !ok || key != impl.SharedKey(100, b.Public) {
		t.Fatalf("the shared key is %d, %v", key, ok)
	}
	bodies := manyBodies(9)
	cells := sealSteps(t, impl.NewRatchet(impl.SharedKey(100, b.Public)), bodies)
	checkOrder(t, impl.NewRatchet(key), cells, bodies, []int{3, 0, 8, 7, 1, 2, 5, 4, 6})
}
