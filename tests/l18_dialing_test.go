package tests

import (
	"bytes"
	"fmt"
	"math"
	"slices"
	"testing"

	"loop.example/g00516/impl"
)

// dialSecrets lists secrets of valid identities: the least and the greatest one, 660, whose public key is the
// greatest element, 510, whose public key is the least one but 1, and others.
var dialSecrets = []int{1, 2, 3, 100, 200, 201, 509, 510, 660, 1017, 1018}

// notShared lists integers that are no public keys of anybody: 1 and those that are no group elements.
func notShared() []int {
	return append([]int{1}, notGroupElements...)
}

// notContacts lists integers that are no public keys and whose two lowest bytes are those of one.
func notContacts(public int) []int {
	return []int{public + 1<<16, public - 1<<16, public + 1<<17, public + 1<<24, public + 1<<32, public - 1<<32, public + 1<<62, public + math.MinInt}
}

func identity(secret int, public int) impl.Identity {
	return impl.Identity{Secret: secret, Public: public}
}

// person is the identity with a secret from 1 to FieldSize-1 as chapter 18 states it.
func person(secret int) impl.Identity {
	return identity(secret, residue(4, secret))
}

// publicKeys lists the public keys of these secrets.
func publicKeys(secrets ...int) []int {
	var list []int
	for _, secret := range secrets {
		list = append(list, person(secret).Public)
	}
	return list
}

// notPersons lists identities that are not valid: secrets that are out of range, with the power that
// would belong to them and with others, and public keys that do not belong to the secret.
func notPersons() []impl.Identity {
	list := []impl.Identity{{}, identity(0, 1), identity(0, 4), identity(1, 0), identity(1, 1), identity(4, 1), identity(200, 1153), identity(100, 2020)}
	for _, secret := range someExponents {
		if secret < 1 || secret > 1018 {
			list = append(list, identity(secret, referencePower(4, secret)), identity(secret, 4), identity(secret, 1), identity(secret, 0))
		}
	}
	for _, secret := range dialSecrets {
		public := person(secret).Public
		list = append(list, identity(secret, -public), identity(secret, public+2039), identity(secret, public-2039), identity(secret, 2039-public),
			identity(secret, public*4%2039), identity(secret+1019, public), identity(secret-1019, public), identity(-secret, public))
		for _, other := range notContacts(public) {
			list = append(list, identity(secret, other))
		}
	}
	for i, public := range notShared() {
		list = append(list, identity(dialSecrets[i%len(dialSecrets)], public))
	}
	return list
}

// twoBytes lists a public key as an invitation has it, the low byte first.
func twoBytes(public int) []byte {
	return []byte{byte(public % 256), byte(public / 256)}
}

// referencePerson tells whether an identity is valid as chapter 18 states it.
func referencePerson(p impl.Identity) bool {
	return p.Secret >= 1 && p.Secret <= 1018 && p.Public == residue(4, p.Secret)
}

// referenceShared is a shared key as chapter 18 states it.
func referenceShared(secret int, public int) int {
	if !inGroup(public) || public == 1 || isMultiple(secret) {
		return 0
	}
	power := referencePower(public, secret)
	return max(referenceHash([]int{power, 107, power}), 1)
}

// referenceDial is the seed of the row of invitations as chapter 18 states it.
func referenceDial(public int, round int) int {
	return referenceChild(referenceHash([]int{public, 109, round, public}), 0)
}

// invitation is the cell of a caller to the public key of a callee as chapter 18 states it, whether or not
// there is such a round. Both must be valid.
func invitation(caller impl.Identity, callee int, round int) []byte {
	return referenceCell(referenceShared(caller.Secret, callee), round, plainOf(2, twoBytes(caller.Public)))
}

// referenceInvited is an opened invitation as chapter 18 states it.
func referenceInvited(callee impl.Identity, contacts []int, round int, cell []byte) (int, int, bool) {
	if !referencePerson(callee) || round < 0 || round > impl.MaxValue || len(cell) != 24 {
		return -1, 0, false
	}
	for i, contact := range contacts {
		key := referenceShared(callee.Secret, contact)
		if key == 0 || !bytes.Equal(cell, withCheck(cell[:20], referenceCheck(key, round, cell[:20]))) {
			continue
		}
		plain := slices.Clone(cell[:4])
		for k := range plain {
			cipher := referenceCipherKey(key, round)
			plain[k] -= byte(referenceHash([]int{cipher, k, cipher}) % 256)
		}
		if bytes.Equal(plain, append([]byte{2, 2}, twoBytes(contact)...)) {
			return i, key, true
		}
	}
	return -1, 0, false
}

// referenceSafety is a safety number as chapter 18 states it.
func referenceSafety(a int, b int) int {
	return referenceHash([]int{113, min(a, b), max(a, b), 113}) % 1000000
}

// checkInvited stops the test if OpenInvitation does not return this index, this key and true.
func checkInvited(t *testing.T, callee impl.Identity, contacts []int, round int, cell []byte, index int, key int) {
	t.Helper()
	if i, k, ok := impl.OpenInvitation(callee, contacts, round, cell); !ok || i != index || k != key {
		t.Fatalf("OpenInvitation(%v, %s, %d, %v) = %d, %d, %v, want %d, %d, true", callee, brief(contacts), round, cell, i, k, ok, index, key)
	}
}

// rejectInvited stops the test if OpenInvitation does not return -1, 0 and false.
func rejectInvited(t *testing.T, callee impl.Identity, contacts []int, round int, cell []byte) {
	t.Helper()
	if i, k, ok := impl.OpenInvitation(callee, contacts, round, cell); ok || i != -1 || k != 0 {
		t.Fatalf("OpenInvitation(%v, %s, %d, %s) = %d, %d, %v, want -1, 0, false", callee, brief(contacts), round, brief(cell), i, k, ok)
	}
}

// checkInvitedAsStated stops the test if OpenInvitation returns something else than chapter 18 states; it
// tells whether the invitation was opened.
func checkInvitedAsStated(t *testing.T, callee impl.Identity, contacts []int, round int, cell []byte) bool {
	t.Helper()
	index, key, ok := referenceInvited(callee, contacts, round, cell)
	if ok {
		checkInvited(t, callee, contacts, round, cell, index, key)
	} else {
		rejectInvited(t, callee, contacts, round, cell)
	}
	return ok
}

// invited returns the cell of MakeInvitation, which must be possible.
func invited(t *testing.T, caller impl.Identity, callee int, round int) []byte {
	t.Helper()
	cell, ok := impl.MakeInvitation(caller, callee, round)
	if !ok || len(cell) != impl.CellBytes {
		t.Fatalf("MakeInvitation(%v, %d, %d) = %v, %v", caller, callee, round, cell, ok)
	}
	return cell
}

// rejectInvitation stops the test if MakeInvitation does not return an empty slice and false.
func rejectInvitation(t *testing.T, caller impl.Identity, callee int, round int) {
	t.Helper()
	if cell, ok := impl.MakeInvitation(caller, callee, round); ok || len(cell) != 0 {
		t.Fatalf("MakeInvitation(%v, %d, %d) = %v, %v, want empty, false", caller, callee, round, cell, ok)
	}
}

func TestNewIdentity(t *testing.T) {
	cases := []struct{ secret, reduced, public int }{
		{1, 1, 4}, {2, 2, 16}, {100, 100, 1153}, {200, 200, 2020}, {201, 201, 1963}, {510, 510, 2}, {509, 509, 1020}, {660, 660, 2032}, {1018, 1018, 510},
		// the remainder counts, also that of a negative secret
		{1020, 1, 4}, {2037, 1018, 510}, {2039, 1, 4}, {1119, 100, 1153}, {-1, 1018, 510}, {-1018, 1, 4}, {-1020, 1018, 510}, {-919, 100, 1153},
		{100 + 1019*1000000007, 100, 1153}, {100 - 1019*1000000007, 100, 1153},
		{math.MaxInt, 681, 1262}, {math.MinInt, 337, 1936},
		// no identity
		{0, 0, 0}, {1019, 0, 0}, {-1019, 0, 0}, {2038, 0, 0},
	}
	for _, c := range cases {
		if got := impl.NewIdentity(c.secret); got != identity(c.reduced, c.public) {
			t.Errorf("NewIdentity(%d) = %v, want %d, %d", c.secret, got, c.reduced, c.public)
		}
	}
	for _, secret := range slices.Concat(someExponents, numbersFrom(-3060, 6120, 1)) {
		want := impl.Identity{}
		if !isMultiple(secret) {
			want = person(((secret % 1019) + 1019) % 1019)
		}
		if got := impl.NewIdentity(secret); got != want || impl.IsValidIdentity(got) != (want.Secret != 0) {
			t.Errorf("NewIdentity(%d) = %v, want %v", secret, got, want)
		}
	}
	for _, secret := range notHiding {
		if got := impl.NewIdentity(secret); got != (impl.Identity{}) {
			t.Errorf("NewIdentity(%d) = %v", secret, got)
		}
	}
}

// Different secrets have different public keys, which are all elements but 1.
func TestNewIdentityOfEverySecret(t *testing.T) {
	publics := []int{1}
	for secret := 1; secret <= 1018; secret++ {
		p := impl.NewIdentity(secret)
		if p.Secret != secret || !impl.IsValidIdentity(p) || p != impl.NewIdentity(secret-1019) {
			t.Errorf("NewIdentity(%d) = %v", secret, p)
		}
		publics = append(publics, p.Public)
	}
	slices.Sort(publics)
	if !slices.Equal(publics, groupElements()) {
		t.Error("the public keys are not the elements but 1")
	}
}

func TestIsValidIdentity(t *testing.T) {
	for secret := 1; secret <= 1018; secret++ {
		if p := person(secret); !impl.IsValidIdentity(p) {
			t.Errorf("IsValidIdentity(%v) is false", p)
		}
	}
	for _, p := range notPersons() {
		if referencePerson(p) || impl.IsValidIdentity(p) {
			t.Errorf("IsValidIdentity(%v) is true", p)
		}
	}
}

// Every public key with several secrets, and every secret, in its range or not, with several public keys.
func TestIsValidIdentityOfEveryPair(t *testing.T) {
	check := func(p impl.Identity, want bool) {
		t.Helper()
		if got := impl.IsValidIdentity(p); got != want {
			t.Errorf("IsValidIdentity(%v) = %v", p, got)
		}
	}
	for _, secret := range dialSecrets {
		own := person(secret).Public
		for public := -5; public <= 4100; public++ {
			check(identity(secret, public), public == own)
		}
	}
	for secret := -2050; secret <= 2050; secret++ {
		for _, own := range dialSecrets {
			check(identity(secret, person(own).Public), secret == own)
		}
		check(identity(secret, 1), false)
		check(identity(secret, 0), false)
	}
}

func TestSharedKey(t *testing.T) {
	cases := []struct{ secret, public, want int }{
		{100, 2020, 449993300}, {200, 1153, 449993300}, {1, 4, 1549212014}, {1, 2032, 1027965845}, {1018, 2032, 1546244132}, {1, 2, 844487351},
		{1018, 2, 919571769}, {7, 16, 1157961220},
		// the remainder of the secret counts
		{1119, 2020, 449993300}, {-919, 2020, 449993300}, {1020, 4, 1549212014}, {-1, 2032, 1546244132}, {8 - 1020, 16, 1157961220},
		// no key
		{100, 1, 0}, {0, 2020, 0}, {1019, 2020, 0}, {-1019, 2020, 0}, {100, 0, 0}, {100, 7, 0},
		{100, 2038, 0}, {100, 2039, 0}, {100, 2043, 0}, {100, -4, 0}, {0, 1, 0}, {0, 0, 0},
	}
	for _, c := range cases {
		if got := impl.SharedKey(c.secret, c.public); got != c.want || got != referenceShared(c.secret, c.public) {
			t.Errorf("SharedKey(%d, %d) = %d, want %d", c.secret, c.public, got, c.want)
		}
	}
}

func TestSharedKeyAgainstReference(t *testing.T) {
	check := func(secret int, public int) {
		t.Helper()
		want := referenceShared(secret, public)
		if got := impl.SharedKey(secret, public); got != want {
			t.Fatalf("SharedKey(%d, %d) = %d, want %d", secret, public, got, want)
		}
	}
	for _, secret := range slices.Concat(someExponents, notHiding, dialSecrets) {
		for _, public := range slices.Concat(someGroupElements, notGroupElements) {
			check(secret, public)
		}
	}
	for _, secret := range []int{1, 100, 1018, -1, 0, 1019} {
		for public := -3; public <= 2050; public++ {
			check(secret, public)
		}
	}
	for secret := -1025; secret <= 2050; secret++ {
		check(secret, 2020)
	}
}

// Everyone computes the same key as the other side, and no other secret yields it.
func TestSharedKeyOfBothSides(t *testing.T) {
	for first := 1; first <= 1018; first++ {
		a := impl.NewIdentity(first)
		for second := 1; second <= first; second++ {
			b := impl.NewIdentity(second)
			key := impl.SharedKey(first, b.Public)
			if other := impl.SharedKey(second, a.Public); key != other || !impl.IsValidKey(key) {
				t.Fatalf("SharedKey of %d and %d is %d on one side, %d on the other", first, second, key, other)
			}
		}
	}
	for _, public := range publicKeys(dialSecrets...) {
		seen := map[int]bool{}
		for secret := 1; secret <= 1018; secret++ {
			seen[impl.SharedKey(secret, public)] = true
		}
		if len(seen) != 1018 {
			t.Errorf("1018 secrets share %d keys with the public key %d", len(seen), public)
		}
	}
}

func TestSharedKeyRejects(t *testing.T) {
	for _, public := range notShared() {
		for _, secret := range slices.Concat(someExponents, notHiding, dialSecrets) {
			if got := impl.SharedKey(secret, public); got != 0 {
				t.Errorf("SharedKey(%d, %d) = %d, want 0", secret, public, got)
			}
		}
	}
	for _, public := range groupElements() {
		for _, secret := range notHiding {
			if got := impl.SharedKey(secret, public); got != 0 {
				t.Errorf("SharedKey(%d, %d) = %d, want 0", secret, public, got)
			}
		}
	}
}

func TestDialRow(t *testing.T) {
	cases := []struct{ public, round, rows, want int }{
		{16, 3, 10, 0}, {16, 3, 64, 50}, {16, 3, 1, 0}, {4, 3, 10, 2}, {2032, 3, 64, 60}, {2020, 5, 10, 9},
		// the first and the last round
		{16, 0, 64, 0}, {16, impl.MaxValue, 64, 18},
		// public keys of nobody
		{0, 3, 64, 24}, {-1, 3, 64, 6}, {impl.Modulus, 3, 64, 24}, {math.MaxInt, 5, 63, 44}, {math.MinInt, 5, 63, 6},
		// no such row
		{16, 3, 0, -1}, {16, 3, -1, -1}, {16, 3, 65, -1}, {16, -1, 10, -1}, {16, impl.MaxValue + 1, 10, -1}, {16, -1, 0, -1},
	}
	for _, c := range cases {
		if got := impl.DialRow(c.public, c.round, c.rows); got != c.want {
			t.Errorf("DialRow(%d, %d, %d) = %d, want %d", c.public, c.round, c.rows, got, c.want)
		}
	}
}

// Every public key, also one that nobody has, has the row that the chapter states, for every number of rows.
func TestDialRowAgainstReference(t *testing.T) {
	for _, public := range slices.Concat(someGroupElements, notGroupElements, someKeys) {
		for _, round := range someRounds {
			seed := referenceDial(public, round)
			for rows := 1; rows <= 64; rows++ {
				if got := impl.DialRow(public, round, rows); got != seed%rows {
					t.Fatalf("DialRow(%d, %d, %d) = %d, want %d", public, round, rows, got, seed%rows)
				}
			}
			if seed != impl.ChildSeed(impl.KeyedHash(public, []int{109, round}), 0) {
				t.Fatalf("the reference for the row of %d in round %d is %d", public, round, seed)
			}
		}
	}
}

func TestDialRowRejects(t *testing.T) {
	for _, public := range []int{4, 16, 2032, 1, 0, 7, -1, math.MinInt, math.MaxInt} {
		for _, round := range slices.Concat(someRounds, notRounds) {
			for _, rows := range notRowCounts {
				if got := impl.DialRow(public, round, rows); got != -1 {
					t.Fatalf("DialRow(%d, %d, %d) = %d, want -1", public, round, rows, got)
				}
			}
		}
		for _, round := range notRounds {
			for _, rows := range someRowCounts {
				if got := impl.DialRow(public, round, rows); got != -1 {
					t.Fatalf("DialRow(%d, %d, %d) = %d, want -1", public, round, rows, got)
				}
			}
		}
	}
}

// A public key changes its row with the round, and different ones have different rows.
func TestDialRowChanges(t *testing.T) {
	for _, public := range publicKeys(dialSecrets...) {
		seen := map[int]bool{}
		same := 0
		for round := range 200 {
			row := impl.DialRow(public, round, 64)
			seen[row] = true
			if row == impl.DialRow(public*4%2039, round, 64) {
				same++
			}
		}
		if len(seen) < 50 || same > 20 {
			t.Errorf("the public key %d has %d rows, %d times that of another one", public, len(seen), same)
		}
	}
}

func TestMakeInvitation(t *testing.T) {
	cases := []struct {
		caller, callee, round int
		want                  []byte
	}{
		{100, 200, 5, []byte{145, 212, 150, 92, 87, 52, 80, 171, 68, 28, 51, 137, 29, 240, 1, 82, 225, 175, 187, 6, 77, 91, 238, 110}},
		{200, 100, 5, []byte{145, 212, 249, 95, 87, 52, 80, 171, 68, 28, 51, 137, 29, 240, 1, 82, 225, 175, 187, 6, 222, 135, 53, 109}},
		{100, 200, 6, []byte{118, 185, 123, 65, 171, 212, 60, 226, 200, 235, 78, 239, 208, 238, 76, 232, 195, 220, 53, 204, 15, 231, 152, 49}},
		// to oneself, in the first round
		{1, 1, 0, []byte{38, 105, 174, 237, 224, 124, 87, 112, 201, 95, 53, 73, 156, 46, 254, 13, 91, 232, 179, 189, 190, 141, 243, 68}},
		// the greatest secret and public key, in the last round
		{1018, 660, impl.MaxValue, []byte{24, 91, 154, 224, 233, 134, 97, 124, 213, 109, 67, 88, 172, 63, 16, 32, 111, 252, 201, 211, 189, 153, 207, 106}},
		// a round as great as Modulus
		{3, 2, impl.Modulus, []byte{128, 195, 68, 71, 82, 118, 216, 121, 89, 119, 212, 112, 75, 100, 188, 83, 40, 60, 143, 32, 114, 215, 47, 94}},
	}
	for _, c := range cases {
		a, b := person(c.caller), person(c.callee)
		if got := invited(t, a, b.Public, c.round); !bytes.Equal(got, c.want) || !bytes.Equal(got, invitation(a, b.Public, c.round)) {
			t.Errorf("MakeInvitation(%v, %d, %d) = %v, want %v", a, b.Public, c.round, got, c.want)
		}
		checkInvited(t, b, []int{a.Public}, c.round, c.want, 0, referenceShared(c.caller, b.Public))
	}
}

func TestMakeInvitationAgainstReference(t *testing.T) {
	for _, caller := range dialSecrets {
		for _, callee := range dialSecrets {
			for _, round := range someRounds {
				a, b := person(caller), person(callee)
				want := invitation(a, b.Public, round)
				if got := invited(t, a, b.Public, round); !bytes.Equal(got, want) {
					t.Fatalf("MakeInvitation(%v, %d, %d) = %v, want %v", a, b.Public, round, got, want)
				}
			}
		}
	}
}

// An invitation says, in two bytes, who calls. Every public key fits, the least and the greatest one too.
func TestMakeInvitationSaysWhoCalls(t *testing.T) {
	for caller := 1; caller <= 1018; caller++ {
		a := impl.NewIdentity(caller)
		checkOpened(t, impl.SharedKey(200, a.Public), 7, invited(t, a, 2020, 7), plainOf(impl.DialKind, twoBytes(a.Public)))
	}
}

// Each reason for a refusal alone and several together.
func TestMakeInvitationRejects(t *testing.T) {
	callees := append(publicKeys(dialSecrets...), notShared()...)
	for _, caller := range notPersons() {
		for _, callee := range callees {
			for _, round := range []int{0, 5, impl.MaxValue, -1, impl.MaxValue + 1} {
				rejectInvitation(t, caller, callee, round)
			}
		}
	}
	for _, secret := range dialSecrets {
		for _, callee := range notShared() {
			for _, round := range slices.Concat(someRounds, notRounds) {
				rejectInvitation(t, person(secret), callee, round)
			}
		}
		for _, callee := range publicKeys(dialSecrets...) {
			for _, round := range notRounds {
				rejectInvitation(t, person(secret), callee, round)
			}
		}
	}
	for callee := range 2050 {
		if !inGroup(callee) || callee == 1 {
			rejectInvitation(t, person(100), callee, 5)
		}
	}
}

// For many pairs and rounds, the callee finds the caller at every place among the contacts.
func TestTwoPersonsAgree(t *testing.T) {
	for caller := 1; caller <= 1018; caller += 13 {
		for callee := 2; callee <= 1018; callee += 29 {
			a, b := impl.NewIdentity(caller), impl.NewIdentity(callee)
			round := someRounds[(caller+callee)%len(someRounds)]
			others := []int{}
			for _, secret := range dialSecrets[:5] {
				if secret != caller {
					others = append(others, person(secret).Public)
				}
			}
			cell := invited(t, a, b.Public, round)
			for place := range len(others) + 1 {
				checkInvited(t, b, slices.Insert(slices.Clone(others), place, a.Public), round, cell, place, impl.SharedKey(caller, b.Public))
			}
			rejectInvited(t, b, others, round, cell)
		}
	}
}

// Only the callee opens an invitation: nobody else does, whoever is among the contacts.
func TestOpenInvitationOfAnotherPerson(t *testing.T) {
	a, b := person(100), person(200)
	cell := invited(t, a, b.Public, 5)
	contacts := []int{4, a.Public, b.Public, 2032, 2}
	for secret := 1; secret <= 1018; secret++ {
		if secret != 200 {
			rejectInvited(t, impl.NewIdentity(secret), []int{a.Public}, 5, cell)
			rejectInvited(t, impl.NewIdentity(secret), contacts, 5, cell)
		}
	}
	checkInvited(t, b, contacts, 5, cell, 1, 449993300)
}

// What one has written oneself opens with the shared key, but is no invitation from the other one.
func TestOpenInvitationOfOneself(t *testing.T) {
	for _, caller := range dialSecrets {
		for _, callee := range dialSecrets {
			a, b := person(caller), person(callee)
			if caller == callee {
				checkInvited(t, a, []int{4 * a.Public % 2039, a.Public}, 5, invited(t, a, a.Public, 5), 1, referenceShared(caller, a.Public))
				continue
			}
			cell := invited(t, a, b.Public, 5)
			rejectInvited(t, a, []int{b.Public}, 5, cell)
			rejectInvited(t, a, []int{b.Public, a.Public}, 5, cell)
			// the callee itself as a contact
			rejectInvited(t, b, []int{b.Public}, 5, cell)
			checkInvited(t, b, []int{b.Public, a.Public}, 5, cell, 1, referenceShared(caller, b.Public))
			checkInvited(t, b, []int{a.Public, b.Public}, 5, cell, 0, referenceShared(caller, b.Public))
		}
	}
}

// The hashes of rounds that differ by a multiple of Modulus are the same, and so are the invitations.
func TestOpenInvitationInAnotherRound(t *testing.T) {
	a, b := person(100), person(200)
	for _, round := range someRounds {
		cell := invited(t, a, b.Public, round)
		for _, other := range slices.Concat(someRounds, numbersFrom(0, 100, 1), []int{round - 1, round + 1}) {
			if other < 0 || other > impl.MaxValue || other%impl.Modulus != round%impl.Modulus {
				rejectInvited(t, b, []int{4, a.Public}, other, cell)
			} else {
				checkInvited(t, b, []int{4, a.Public}, other, cell, 1, 449993300)
			}
		}
		for _, other := range notRounds {
			rejectInvited(t, b, []int{4, a.Public}, other, cell)
		}
	}
	// no rounds with the hash of one in which the cell would be opened
	cell := invited(t, a, b.Public, 5)
	for _, round := range []int{5 - impl.Modulus, 5 + 1000*impl.Modulus, 5 - 1000*impl.Modulus, 5 + impl.Modulus*(1<<31)} {
		rejectInvited(t, b, []int{a.Public}, round, cell)
	}
	for _, round := range notRounds {
		rejectInvited(t, b, []int{a.Public}, round, invitation(a, b.Public, round))
	}
}

// Nobody but the caller is found: all other public keys together do not contain the caller.
func TestOpenInvitationOfOtherContacts(t *testing.T) {
	for _, caller := range dialSecrets {
		a, b := person(caller), person(200)
		cell := invited(t, a, b.Public, 5)
		others := slices.DeleteFunc(groupElements(), func(public int) bool { return public == a.Public })
		rejectInvited(t, b, others, 5, cell)
		rejectInvited(t, b, notContacts(a.Public), 5, cell)
		rejectInvited(t, b, []int{a.Public + 2039, a.Public - 2039, -a.Public, 2039 - a.Public, caller, 0, 1}, 5, cell)
		key := referenceShared(caller, b.Public)
		checkInvited(t, b, append(others, a.Public, a.Public), 5, cell, 1018, key)
		checkInvited(t, b, groupElements(), 5, cell, slices.Index(groupElements(), a.Public), key)
		checkInvited(t, b, append(make([]int, 5000), a.Public), 5, cell, 5000, key)
	}
}

// The first of equal contacts counts, and what is no public key is passed over, ahead of the caller and behind.
func TestOpenInvitationPassesOver(t *testing.T) {
	a, b := person(100), person(200)
	cell := invited(t, a, b.Public, 5)
	cases := []struct {
		contacts []int
		index    int
	}{
		{[]int{1153}, 0}, {[]int{1153, 1153}, 0}, {[]int{4, 1153, 1153}, 1}, {[]int{1153, 4, 1153}, 0}, {[]int{4, 4, 1153, 4, 1153}, 2},
		{[]int{0, 1153}, 1}, {[]int{1, 1153}, 1}, {[]int{7, 1153}, 1}, {[]int{1153, 0}, 0}, {[]int{1153, 1}, 0}, {[]int{1153, 7}, 0},
		{[]int{0, 1, 7, 2039, 1153, 0, 1, 7}, 4}, {[]int{-1, -1153, 1153 + 2039, 1153 - 2039, 1153}, 4}, {[]int{1, 1, 1, 1153}, 3},
	}
	for _, c := range cases {
		checkInvited(t, b, c.contacts, 5, cell, c.index, 449993300)
		rejectInvited(t, b, slices.DeleteFunc(slices.Clone(c.contacts), func(public int) bool { return public == 1153 }), 5, cell)
	}
	for _, public := range append(notShared(), notContacts(1153)...) {
		rejectInvited(t, b, []int{public}, 5, cell)
		rejectInvited(t, b, []int{public, public}, 5, cell)
		checkInvited(t, b, []int{public, 1153}, 5, cell, 1, 449993300)
		checkInvited(t, b, []int{1153, public}, 5, cell, 0, 449993300)
		checkInvited(t, b, []int{4, public, 1153, public}, 5, cell, 2, 449993300)
	}
	all := append(notShared(), notContacts(1153)...)
	checkInvited(t, b, append(all, 1153), 5, cell, len(all), 449993300)
	rejectInvited(t, b, all, 5, cell)
	rejectInvited(t, b, nil, 5, cell)
	rejectInvited(t, b, []int{}, 5, cell)
}

// keysOfNobody lists keys that no two persons share: those that would come of powers that are not in the
// group, or are 1, and public keys and other small numbers as keys.
func keysOfNobody() []int {
	list := []int{1, 2, 107, 200, 1153, 2020, impl.Modulus - 1}
	for _, power := range []int{0, 1, 2038, 2039, 1153 + 2039} {
		list = append(list, max(referenceHash([]int{power, 107, power}), 1))
	}
	return list
}

// What is sealed with a key that nobody shares is no invitation, least of all from a contact that is no public key.
func TestOpenInvitationOfNoKey(t *testing.T) {
	for _, key := range keysOfNobody() {
		for _, public := range slices.Concat([]int{1153, 2020, 4}, notShared()) {
			cell := referenceCell(key, 5, plainOf(2, twoBytes(public&0xffff)))
			rejectInvited(t, person(200), []int{public}, 5, cell)
			rejectInvited(t, person(200), []int{0, 1, 7, 2038, public, 2039}, 5, cell)
		}
	}
}

func TestOpenInvitationRejectsCallee(t *testing.T) {
	a := person(100)
	contacts := []int{4, a.Public, 2020}
	for _, callee := range notPersons() {
		for _, public := range []int{callee.Public, referencePower(4, callee.Secret), 2020} {
			if !inGroup(public) || public == 1 {
				continue
			}
			cell := invited(t, a, public, 5)
			rejectInvited(t, callee, contacts, 5, cell)
			rejectInvited(t, callee, nil, 5, cell)
			rejectInvited(t, callee, []int{0, 1, 7}, 5, cell)
			rejectInvited(t, callee, contacts, -1, cell)
			rejectInvited(t, callee, contacts, 5, cell[:23])
		}
		rejectInvited(t, callee, contacts, 5, nil)
		rejectInvited(t, callee, []int{}, impl.MaxValue+1, nil)
	}
}

// otherSizes lists cells of other lengths: parts of the cell, longer ones that contain it, and zeros.
func otherSizes(cell []byte) [][]byte {
	list := [][]byte{nil, {}}
	for length := range 24 {
		list = append(list, cell[:length], cell[24-length:], make([]byte, length))
	}
	for _, length := range []int{25, 26, 28, 47, 48, 72, 280, 24 + 1<<16} {
		list = append(list, extended(cell, length), bytes.Repeat(cell, length/24+1)[:length], append(make([]byte, length-24), cell...))
	}
	return list
}

// changedCells lists the cells in which one byte is changed, each to every other value.
func changedCells(cell []byte) [][]byte {
	var list [][]byte
	for place := range cell {
		for change := 1; change < 256; change++ {
			changed := slices.Clone(cell)
			changed[place] ^= byte(change)
			list = append(list, changed)
		}
	}
	return list
}

// Cells of every other length, in front of which or at the beginning of which an invitation is.
func TestOpenInvitationSizes(t *testing.T) {
	a, b := person(100), person(200)
	cell := invited(t, a, b.Public, 5)
	for _, other := range otherSizes(cell) {
		rejectInvited(t, b, []int{a.Public}, 5, other)
	}
	rejectInvited(t, b, []int{a.Public}, 5, make([]byte, 24))
	checkInvited(t, b, []int{a.Public}, 5, cell, 0, 449993300)
}

// Each byte changed to every other value, and two of them exchanged.
func TestOpenInvitationChanged(t *testing.T) {
	a, b := person(100), person(200)
	cell := invited(t, a, b.Public, 5)
	for _, changed := range changedCells(cell) {
		rejectInvited(t, b, []int{4, a.Public}, 5, changed)
	}
	for place := range cell {
		for other := range place {
			changed := slices.Clone(cell)
			changed[place], changed[other] = changed[other], changed[place]
			if !bytes.Equal(changed, cell) {
				rejectInvited(t, b, []int{4, a.Public}, 5, changed)
			}
		}
	}
	for seed := range 500 {
		rejectInvited(t, b, []int{4, a.Public}, 5, impl.CoverCell(seed))
	}
}

// Cells that open with the shared key, but say something else than who calls.
func TestOpenInvitationOfOtherMessages(t *testing.T) {
	a, b := person(100), person(200)
	key := referenceShared(200, a.Public)
	own := twoBytes(a.Public)
	reject := func(kind int, body []byte) {
		t.Helper()
		cell := referenceCell(key, 5, plainOf(kind, body))
		checkOpened(t, key, 5, cell, plainOf(kind, body))
		rejectInvited(t, b, []int{a.Public}, 5, cell)
		rejectInvited(t, b, []int{4, a.Public, b.Public, 2032, 0, 1, 7}, 5, cell)
	}
	for kind := range 4 {
		if kind != impl.DialKind {
			reject(kind, own)
			reject(kind, nil)
		}
		for length := range 15 {
			if length != 2 {
				reject(kind, extended(own, 14)[:length])
				reject(kind, bytes.Repeat(own, 7)[:length])
				reject(kind, mixed(length, 3))
			}
		}
		reject(kind, []byte{own[1], own[0]})
		reject(kind, []byte{0, own[0], own[1]})
	}
	for _, public := range append(publicKeys(1, 2, 3, 101, 200, 201, 660, 1018), 0, 1, 7, 1153+1, 1153-1, 1153+256, 1153-256, 1153+2039, 2039-1153, 65535) {
		reject(impl.DialKind, twoBytes(public))
	}
	for _, c := range []byte{own[0], own[1], 0, 255} {
		reject(impl.DialKind, []byte{c})
		reject(impl.DialKind, []byte{c, c})
	}
}

// Of all bodies of two bytes, only that of the contact is accepted.
func TestOpenInvitationOfEveryBody(t *testing.T) {
	b := person(200)
	for _, public := range []int{1153, 2, 2032} {
		key := impl.SharedKey(200, public)
		for body := range 1 << 16 {
			cell, _ := impl.SealCell(key, 5, plainOf(impl.DialKind, twoBytes(body)))
			if i, k, ok := impl.OpenInvitation(b, []int{public}, 5, cell); ok != (body == public) || ok && (i != 0 || k != key) || !ok && (i != -1 || k != 0) {
				t.Fatalf("the body %d of the contact %d: %d, %d, %v", body, public, i, k, ok)
			}
		}
	}
}

// The padding does not matter; a kind or a length beyond its limit does.
func TestOpenInvitationOfSealedBytes(t *testing.T) {
	a, b := person(100), person(200)
	key := referenceShared(200, a.Public)
	plain := append([]byte{2, 2}, twoBytes(a.Public)...)
	for start := range 50 {
		checkInvited(t, b, []int{4, a.Public}, 5, sealBytes(key, 5, append(slices.Clone(plain), mixed(16, start)...)), 1, key)
	}
	for place, least := range []int{3, 3} {
		for c := least; c < 256; c++ {
			changed := append(slices.Clone(plain), make([]byte, 16)...)
			changed[place] = byte(c)
			rejectInvited(t, b, []int{4, a.Public}, 5, sealBytes(key, 5, changed))
		}
	}
}

// Identities, contacts, rounds and cells of every kind with each other.
func TestOpenInvitationAgainstReference(t *testing.T) {
	a, b := person(100), person(200)
	lists := [][]int{nil, {}, {1153}, {2020}, {4, 1153}, {1153, 1153, 2020}, {0, 1, 7, 2020, 1153}, {2020, 1153, 4}, {1153 + 2039, 1153 + 1<<16}, {2, 2032, 4, 16}}
	rounds := []int{0, 5, 6, 5 + impl.Modulus, impl.MaxValue, -1, impl.MaxValue + 1, math.MinInt, math.MaxInt}
	cells := [][]byte{nil, {}, make([]byte, 24), mixed(24, 5), invitation(a, b.Public, 5)[:20], impl.CoverCell(3)}
	for _, round := range rounds {
		cells = append(cells, invitation(a, b.Public, round), invitation(b, a.Public, round), invitation(person(1), b.Public, round), invitation(a, a.Public, round),
			invitation(b, b.Public, round), referenceCell(referenceShared(100, b.Public), round, plainOf(1, twoBytes(1153))))
	}
	opened := 0
	for _, callee := range []impl.Identity{a, b, person(1), person(201), {}, identity(1219, 2020), identity(200, 1153)} {
		for _, contacts := range lists {
			for _, round := range rounds {
				for _, cell := range cells {
					if checkInvitedAsStated(t, callee, contacts, round, cell) {
						opened++
					}
				}
			}
		}
	}
	if opened < 50 {
		t.Errorf("%d invitations are opened", opened)
	}
}

// An invitation arrives through its row: the callee reads that row privately, and both have a mailbox then.
func TestInvitationThroughRows(t *testing.T) {
	a, b := impl.NewIdentity(100), impl.NewIdentity(200)
	for round := range 20 {
		row := impl.DialRow(b.Public, round, 32)
		d, ok := impl.JoinWrites(impl.MakeWrite(32, row, invited(t, a, b.Public, round), []int{5, 6}))
		if !ok {
			t.Fatal("the invitation cannot be written")
		}
		cell, ok := impl.ReadPrivately(d, impl.DialRow(b.Public, round, 32), []int{7, 8})
		index, key, opened := impl.OpenInvitation(b, []int{4, a.Public}, round, cell)
		if !ok || !opened || index != 1 {
			t.Fatalf("the invitation of round %d does not arrive: %d, %v, %v", round, index, ok, opened)
		}
		sender, text := checkMailed(t, impl.SharedKey(a.Secret, b.Public))
		if got := checkReceived(t, mailbox(key, 0, 0), 0, text, []byte("hi")); got.Received != sender.Sent {
			t.Errorf("the mailboxes are %v and %v", sender, got)
		}
		for other := range 32 {
			if other != row {
				empty, _ := impl.ReadPrivately(d, other, []int{7, 8})
				rejectInvited(t, b, []int{4, a.Public}, round, empty)
			}
		}
	}
}

// checkMailed returns the mailbox with this key after it has sent a message, and the cell.
func checkMailed(t *testing.T, key int) (impl.Mailbox, []byte) {
	t.Helper()
	next, cell, ok := impl.SendToMailbox(mailbox(key, 0, 0), 0, []byte("hi"))
	if !ok {
		t.Fatalf("nothing is sent with the key %d", key)
	}
	return next, cell
}

func TestSafetyNumber(t *testing.T) {
	cases := []struct{ a, b, want int }{
		{16, 64, 993542}, {64, 16, 993542}, {16, 16, 993398}, {4, 2032, 135127}, {1153, 2020, 785376}, {2020, 1153, 785376},
		// public keys of nobody
		{0, 0, 647003}, {1, 0, 647006}, {0, 1, 647006}, {2, 1, 267516}, {-1, 1, 26499}, {1, -1, 26499},
		// the lesser number itself comes first, not that with the lesser remainder
		{impl.Modulus + 16, 64, 999733}, {64, impl.Modulus + 16, 999733},
		{math.MaxInt, math.MinInt, 922345}, {math.MinInt, math.MaxInt, 922345}, {math.MinInt, math.MinInt, 922336}, {math.MaxInt, math.MaxInt, 267513},
	}
	for _, c := range cases {
		if got := impl.SafetyNumber(c.a, c.b); got != c.want {
			t.Errorf("SafetyNumber(%d, %d) = %d, want %d", c.a, c.b, got, c.want)
		}
	}
	numbers := slices.Concat(someGroupElements, notGroupElements, someKeys, someExponents)
	for _, a := range numbers {
		for _, b := range numbers {
			want := referenceSafety(a, b)
			if got := impl.SafetyNumber(a, b); got != want || got < 0 || got > 999999 || got != impl.SafetyNumber(b, a) {
				t.Fatalf("SafetyNumber(%d, %d) = %d, want %d", a, b, got, want)
			}
		}
	}
}

// Two persons have the same number, and an exchanged public key is noticed.
func TestSafetyNumberTells(t *testing.T) {
	elements := groupElements()
	for _, a := range publicKeys(dialSecrets...) {
		seen := map[int]bool{}
		for _, b := range elements {
			got := impl.SafetyNumber(a, b)
			if got != impl.SafetyNumber(b, a) {
				t.Fatalf("SafetyNumber(%d, %d) is %d, and another one in the other order", a, b, got)
			}
			seen[got] = true
		}
		// of 1000000
		if len(seen) < 1010 {
			t.Errorf("1019 public keys have %d safety numbers with %d", len(seen), a)
		}
	}
}

func TestInvitationsCopy(t *testing.T) {
	for _, caller := range []impl.Identity{person(100), person(1018), {}} {
		for _, callee := range []int{2020, 4, 1, 0} {
			for _, round := range []int{5, -1} {
				name := fmt.Sprintf("MakeInvitation(%v, %d, %d)", caller, callee, round)
				checkAgain(t, name, func() []byte { cell, _ := impl.MakeInvitation(caller, callee, round); return cell })
			}
		}
	}
	a, b := person(100), person(200)
	for _, contacts := range [][]int{nil, {}, {1153}, {4, 0, 1, 7, 1153, 1153}, {4, 16}, notShared(), groupElements()} {
		for _, content := range [][]byte{invitation(a, b.Public, 5), invitation(b, a.Public, 5), invitation(a, b.Public, 6), mixed(24, 3), mixed(23, 3), mixed(25, 3), nil} {
			for _, callee := range []impl.Identity{b, a, {}} {
				list, sameList := roomy(contacts)
				cell, sameCell := roomy(content)
				first := checkInvitedAsStated(t, callee, list, 5, cell)
				if !sameList() || !sameCell() || first != checkInvitedAsStated(t, callee, list, 5, cell) {
					t.Errorf("OpenInvitation(%v, %s, 5, %v) changes its arguments or its result", callee, brief(contacts), content)
				}
			}
		}
	}
	// the spare capacity is no part of a list or of a cell
	list, _ := roomy([]int{4, 1153})
	cell, _ := roomy(invitation(a, b.Public, 5))
	rejectInvited(t, b, list[:1], 5, cell)
	rejectInvited(t, b, list, 5, cell[:23])
	checkInvited(t, b, list, 5, cell, 1, 449993300)
}
