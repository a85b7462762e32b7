package tests

import (
	"bytes"
	"math"
	"math/rand/v2"
	"slices"
	"testing"

	"loop.example/g00516/impl"
)

// groupEpochs lists epochs of valid groups, the first and the last one among them.
var groupEpochs = []int{0, 1, 2, 5, 8, 77, 50000, 99998, 99999, 100000}

// groupSecrets lists valid secrets, among them one for which the key of member 3 in epoch 5 would be 0, those for
// which it is 1 and the greatest key, and the only one that is followed by itself with the fresh number 50.
var groupSecrets = append([]int{9, 315812231, 1178058131, 1601049978, 315971580}, cellKeys...)

// freshNumbers lists numbers for new secrets, which may be any integers, among them those with which the secret
// after 77 and the fresh secret would be 0, are 1 and are the greatest key.
var freshNumbers = append([]int{50, 51, 60, 1987247866, 1363553914, 463458171, 1880747224, 755407305, 858603496}, someDirections...)

func group(id int, epoch int, secret int, members ...int) impl.SenderGroup {
	return impl.SenderGroup{Id: id, Epoch: epoch, Secret: secret, Members: members}
}

// sameGroup tells whether groups are equal; it does not use the package under test.
func sameGroup(a impl.SenderGroup, b impl.SenderGroup) bool {
	return a.Id == b.Id && a.Epoch == b.Epoch && a.Secret == b.Secret && slices.Equal(a.Members, b.Members)
}

// someMemberLists lists members of valid groups, from none to MaxMembers, with the least and the greatest number.
func someMemberLists() [][]int {
	return [][]int{nil, {}, {0}, {3}, {impl.MaxValue}, {0, 1}, {1, 3}, {0, impl.MaxValue}, {impl.MaxValue - 1, impl.MaxValue}, {1, 3, 9}, {0, 2, 4},
		{0, 500, impl.MaxValue}, {3, 737597457, impl.Modulus}, {1, 3, 7, 9}, {0, 1 << 32, 1 << 33, impl.MaxValue - 1, impl.MaxValue}, numbersFrom(2, 6, 3),
		numbersFrom(0, 7, 1), numbersFrom(1, 7, 3), numbersFrom(impl.MaxValue-6, 7, 1), numbersFrom(0, 7, impl.MaxValue/7), append(numbersFrom(4, 6, 1), impl.MaxValue),
		numbersFrom(0, 8, 1), numbersFrom(1, 8, 3), numbersFrom(impl.MaxValue-7, 8, 1), numbersFrom(0, 8, impl.MaxValue/7), append(numbersFrom(0, 7, 1), impl.MaxValue)}
}

// notMemberLists lists members that no group has: too many, some twice, out of order, and integers that are no
// number of a member at the first, a middle and the last place.
func notMemberLists() [][]int {
	list := [][]int{numbersFrom(0, 9, 1), numbersFrom(1, 9, 3), numbersFrom(impl.MaxValue-8, 9, 1), numbersFrom(0, 10, 1), numbersFrom(0, 16, 1), numbersFrom(0, 1000, 1),
		{0, 0}, {3, 3}, {impl.MaxValue, impl.MaxValue}, {1, 1, 3}, {1, 3, 3}, {0, 0, 0}, {1, 3, 3, 9}, slices.Repeat([]int{3}, 8), slices.Repeat([]int{3}, 9),
		{1, 0}, {9, 3}, {impl.MaxValue, 0}, {3, 1, 9}, {1, 9, 3}, {9, 3, 1}, {1, 3, 1}, {0, 2, 1, 3}, numbersFrom(8, 8, -1), append(numbersFrom(1, 7, 1), 7), append(numbersFrom(1, 7, 1), 0)}
	for _, bad := range notRounds {
		list = append(list, []int{bad}, []int{bad, 3}, []int{3, bad}, []int{1, bad, 9}, []int{bad, bad}, append(numbersFrom(0, 7, 1), bad), append([]int{bad}, numbersFrom(0, 7, 1)...))
	}
	return list
}

// someGroups lists valid groups.
func someGroups() []impl.SenderGroup {
	list := []impl.SenderGroup{group(0, 0, 77), group(0, 5, 77, 1, 3, 9), group(impl.MaxValue, 100000, impl.Modulus-1, numbersFrom(impl.MaxValue-7, 8, 1)...)}
	for i, members := range someMemberLists() {
		for j, epoch := range groupEpochs {
			list = append(list, group(someRounds[(i+j)%len(someRounds)], epoch, groupSecrets[(3*i+j)%len(groupSecrets)], members...))
		}
	}
	return list
}

// notGroups lists groups that are not valid for one reason or for several.
func notGroups() []impl.SenderGroup {
	list := []impl.SenderGroup{{}}
	add := func(id int, epoch int, secret int, members []int) {
		list = append(list, group(id, epoch, secret, members...))
	}
	for i, members := range notMemberLists() {
		badId, badEpoch, badSecret := notRounds[i%len(notRounds)], notRatchetSteps[i%len(notRatchetSteps)], notCellKeys[i%len(notCellKeys)]
		add(7, 5, 77, members)
		add(0, 0, 1, members)
		add(impl.MaxValue, 100000, impl.Modulus-1, members)
		add(badId, 5, 77, members)
		add(7, badEpoch, 77, members)
		add(7, 5, badSecret, members)
		add(badId, badEpoch, badSecret, members)
	}
	for i, members := range someMemberLists() {
		badId, badEpoch, badSecret := notRounds[i%len(notRounds)], notRatchetSteps[i%len(notRatchetSteps)], notCellKeys[i%len(notCellKeys)]
		add(badId, 5, 77, members)
		add(7, badEpoch, 77, members)
		add(7, 5, badSecret, members)
		add(badId, badEpoch, 77, members)
		add(badId, 5, badSecret, members)
		add(7, badEpoch, badSecret, members)
		add(badId, badEpoch, badSecret, members)
	}
	for _, members := range [][]int{nil, {1, 3, 9}} {
		for _, bad := range notRounds {
			add(bad, 5, 77, members)
		}
		for _, bad := range notRatchetSteps {
			add(7, bad, 77, members)
		}
		for _, bad := range notCellKeys {
			add(7, 5, bad, members)
		}
	}
	return list
}

// membersFor lists members to add to a group, to remove from it or to send as: its members, those about them,
// the limits and what is beyond them.
func membersFor(g impl.SenderGroup) []int {
	list := slices.Concat(notRounds, []int{0, 1, 2, 3, 4, 500, 737597457, 1 << 32, impl.MaxValue - 1, impl.MaxValue})
	for _, member := range g.Members[:min(len(g.Members), 10)] {
		list = append(list, member-1, member, member+1, member+impl.Modulus, member+1<<32, -member)
	}
	slices.Sort(list)
	return slices.Compact(list)
}

// referenceNext is the secret after an earlier one as chapter 20 states it.
func referenceNext(secret int, fresh int) int {
	return max(referenceHash([]int{secret, 137, fresh, secret}), 1)
}

// referenceFresh is a fresh secret as chapter 20 states it.
func referenceFresh(fresh int) int {
	return max(referenceHash([]int{fresh, 139, fresh}), 1)
}

// referenceSender is the key with which a member sends as chapter 20 states it.
func referenceSender(g impl.SenderGroup, member int) int {
	return max(referenceHash([]int{g.Secret, 149, g.Epoch, member, g.Secret}), 1)
}

// referenceGrouped tells whether a group is valid as chapter 20 states it.
func referenceGrouped(g impl.SenderGroup) bool {
	different := slices.Compact(slices.Sorted(slices.Values(g.Members)))
	if len(different) > 8 || len(different) > 0 && (different[0] < 0 || different[len(different)-1] > 1000000000000) {
		return false
	}
	return slices.Equal(different, g.Members) && g.Id >= 0 && g.Id <= 1000000000000 && g.Epoch >= 0 && g.Epoch <= 100000 && g.Secret >= 1 && g.Secret <= 2147483646
}

// referenceAdd is what AddMember returns as chapter 20 states it.
func referenceAdd(g impl.SenderGroup, member int, fresh int) (impl.SenderGroup, bool) {
	next := group(g.Id, g.Epoch+1, referenceNext(g.Secret, fresh), slices.Sorted(slices.Values(append(slices.Clone(g.Members), member)))...)
	if !referenceGrouped(g) || slices.Contains(g.Members, member) || !referenceGrouped(next) {
		return g, false
	}
	return next, true
}

// referenceRemove is what RemoveMember returns as chapter 20 states it.
func referenceRemove(g impl.SenderGroup, member int, fresh int) (impl.SenderGroup, bool) {
	place := slices.Index(g.Members, member)
	if !referenceGrouped(g) || place < 0 || g.Epoch == 100000 {
		return g, false
	}
	return group(g.Id, g.Epoch+1, referenceFresh(fresh), without(g.Members, place)...), true
}

// referenceFrom is what OpenFromGroup returns as chapter 20 states it.
func referenceFrom(g impl.SenderGroup, counter int, cell []byte) (int, []byte, bool) {
	if !referenceGrouped(g) || counter < 0 || counter > 1000000000000 {
		return -1, nil, false
	}
	for _, member := range g.Members {
		if body, ok := referenceText(referenceSender(g, member), counter, cell); ok {
			return member, body, true
		}
	}
	return -1, nil, false
}

// memberCell is the cell of a text as chapter 20 states it, whether or not the group and the member are valid.
func memberCell(g impl.SenderGroup, member int, counter int, body []byte) []byte {
	return referenceCell(referenceSender(g, member), counter, plainOf(1, body))
}

// changing is one of the two functions that change the members of a group, with what the chapter states of it.
type changing struct {
	name   string
	call   func(g impl.SenderGroup, member int, fresh int) (impl.SenderGroup, bool)
	stated func(g impl.SenderGroup, member int, fresh int) (impl.SenderGroup, bool)
}

var adding = changing{"AddMember", impl.AddMember, referenceAdd}

var removing = changing{"RemoveMember", impl.RemoveMember, referenceRemove}

// check stops the test if the function returns something else than chapter 20 states, or a group that is not
// valid; it returns the group.
func (c changing) check(t *testing.T, g impl.SenderGroup, member int, fresh int) (impl.SenderGroup, bool) {
	t.Helper()
	got, ok := c.call(g, member, fresh)
	want, wantOk := c.stated(g, member, fresh)
	if ok != wantOk || !sameGroup(got, want) || ok && !impl.IsValidGroup(got) {
		t.Fatalf("%s(%s, %d, %d) = %s, %v, want %s, %v", c.name, brief(g), member, fresh, brief(got), ok, brief(want), wantOk)
	}
	return got, ok
}

// changed returns the group after the change, which must be possible.
func (c changing) changed(t *testing.T, g impl.SenderGroup, member int, fresh int) impl.SenderGroup {
	t.Helper()
	got, ok := c.check(t, g, member, fresh)
	if !ok {
		t.Fatalf("%s(%s, %d, %d) is false", c.name, brief(g), member, fresh)
	}
	return got
}

// reject stops the test if the function does not return an equal group and false.
func (c changing) reject(t *testing.T, g impl.SenderGroup, member int, fresh int) {
	t.Helper()
	if got, ok := c.call(g, member, fresh); ok || !sameGroup(got, g) {
		t.Fatalf("%s(%s, %d, %d) = %s, %v, want the same group, false", c.name, brief(g), member, fresh, brief(got), ok)
	}
}

// sealFor returns the cell of a member of the group, which must be that which the chapter states.
func sealFor(t *testing.T, g impl.SenderGroup, member int, counter int, body []byte) []byte {
	t.Helper()
	cell, ok := impl.SealForGroup(g, member, counter, body)
	if !ok || !bytes.Equal(cell, memberCell(g, member, counter, body)) {
		t.Fatalf("SealForGroup(%v, %d, %d, %v) = %v, %v", g, member, counter, body, cell, ok)
	}
	return cell
}

// rejectSealFor stops the test if SealForGroup does not return an empty slice and false.
func rejectSealFor(t *testing.T, g impl.SenderGroup, member int, counter int, body []byte) {
	t.Helper()
	if cell, ok := impl.SealForGroup(g, member, counter, body); ok || len(cell) != 0 {
		t.Fatalf("SealForGroup(%s, %d, %d, %s) = %s, %v, want empty, false", brief(g), member, counter, brief(body), brief(cell), ok)
	}
}

// checkFrom stops the test if OpenFromGroup does not return this member, this body and true.
func checkFrom(t *testing.T, g impl.SenderGroup, counter int, cell []byte, member int, body []byte) {
	t.Helper()
	if got, gotBody, ok := impl.OpenFromGroup(g, counter, cell); !ok || got != member || !bytes.Equal(gotBody, body) {
		t.Fatalf("OpenFromGroup(%v, %d, %v) = %d, %v, %v, want %d, %v, true", g, counter, cell, got, gotBody, ok, member, body)
	}
}

// rejectFrom stops the test if OpenFromGroup does not return -1, an empty slice and false.
func rejectFrom(t *testing.T, g impl.SenderGroup, counter int, cell []byte) {
	t.Helper()
	if member, body, ok := impl.OpenFromGroup(g, counter, cell); ok || member != -1 || len(body) != 0 {
		t.Fatalf("OpenFromGroup(%s, %d, %s) = %d, %v, %v, want -1, empty, false", brief(g), counter, brief(cell), member, body, ok)
	}
}

// checkEverySender stops the test if one of the members cannot send to the group, or to a group that is equal.
func checkEverySender(t *testing.T, g impl.SenderGroup, counter int) {
	t.Helper()
	for i, member := range g.Members {
		body := mixed(i%15, member%256)
		checkFrom(t, g, counter, sealFor(t, g, member, counter, body), member, body)
	}
}

func TestGroupConstants(t *testing.T) {
	if impl.MaxMembers != 8 {
		t.Error(impl.MaxMembers)
	}
}

func TestIsValidGroup(t *testing.T) {
	for _, g := range someGroups() {
		if !referenceGrouped(g) || !impl.IsValidGroup(g) {
			t.Errorf("IsValidGroup(%v) is false", g)
		}
	}
	for _, g := range notGroups() {
		if referenceGrouped(g) || impl.IsValidGroup(g) {
			t.Errorf("IsValidGroup(%s) is true", brief(g))
		}
	}
	for count := range 60 {
		for _, first := range []int{0, 1, 77, impl.MaxValue - 60} {
			if got := impl.IsValidGroup(group(7, 5, 77, numbersFrom(first, count, 1)...)); got != (count <= 8) {
				t.Errorf("IsValidGroup of %d members from %d on is %v", count, first, got)
			}
		}
	}
	for valid, ids := range map[bool][]int{true: someRounds, false: notRounds} {
		for _, id := range ids {
			if impl.IsValidGroup(group(id, 5, 77)) != valid || impl.IsValidGroup(group(id, 100000, 1, 0, 3)) != valid {
				t.Errorf("IsValidGroup with the identifier %d is not %v", id, valid)
			}
		}
	}
	for valid, epochs := range map[bool][]int{true: ratchetSteps, false: notRatchetSteps} {
		for _, epoch := range epochs {
			if impl.IsValidGroup(group(0, epoch, 77)) != valid || impl.IsValidGroup(group(impl.MaxValue, epoch, 1, 0, 3)) != valid {
				t.Errorf("IsValidGroup in epoch %d is not %v", epoch, valid)
			}
		}
	}
	for valid, secrets := range map[bool][]int{true: groupSecrets, false: notCellKeys} {
		for _, secret := range secrets {
			if impl.IsValidGroup(group(0, 0, secret)) != valid || impl.IsValidGroup(group(7, 5, secret, 0, 3)) != valid {
				t.Errorf("IsValidGroup with the secret %d is not %v", secret, valid)
			}
		}
	}
}

// Every number at every place, about both limits and among MaxMembers.
func TestIsValidGroupAgainstReference(t *testing.T) {
	check := func(g impl.SenderGroup) {
		t.Helper()
		if got := impl.IsValidGroup(g); got != referenceGrouped(g) {
			t.Errorf("IsValidGroup(%v) = %v", g, got)
		}
	}
	for a := -2; a <= 5; a++ {
		for b := -2; b <= 5; b++ {
			check(group(7, 5, 77, a, b))
			for c := -2; c <= 5; c++ {
				check(group(7, 5, 77, a, b, c))
				check(group(7, 5, 77, impl.MaxValue-3+a, impl.MaxValue-3+b, impl.MaxValue-3+c))
			}
		}
	}
	for place := range 8 {
		for _, member := range append(numbersFrom(-2, 30, 1), notRounds...) {
			g := group(7, 5, 77, numbersFrom(2, 8, 3)...)
			g.Members[place] = member
			check(g)
		}
	}
}

func TestNextSecret(t *testing.T) {
	cases := []struct{ secret, fresh, want int }{
		{9, 50, 1316147123}, {1316147123, 51, 1100179177}, {9, 51, 1317147126}, {77, 50, 1819386588}, {77, 0, 1769386438}, {77, 5, 1774386453}, {77, -1, 1768386435},
		{1, 0, 1459587465}, {impl.Modulus - 1, 0, 1507947588}, {77, impl.Modulus, 1769386438}, {77, impl.MaxValue, 713774243}, {77, math.MinInt, 1767386432}, {77, math.MaxInt, 1770386441},
		// what is no valid key
		{0, 5, 415025718}, {-1, 5, 1512947603}, {impl.Modulus, 5, 415025718}, {9 + impl.Modulus, 50, 1316147123},
		// hashes that would be 0, that are 1, and that are the greatest key
		{77, 1987247866, 1}, {1490428345, 50, 1}, {77, 1363553914, 1}, {601692189, 50, 1}, {77, 463458171, impl.Modulus - 1}, {231680854, 50, impl.Modulus - 1},
		{77 - impl.Modulus, 1987247866 + impl.Modulus, 1},
		// a secret that is followed by itself
		{315971580, 50, 315971580},
	}
	for _, c := range cases {
		if got := impl.NextSecret(c.secret, c.fresh); got != c.want {
			t.Errorf("NextSecret(%d, %d) = %d, want %d", c.secret, c.fresh, got, c.want)
		}
	}
	if impl.KeyedHash(77, []int{137, 1987247866}) != 0 || impl.KeyedHash(1490428345, []int{137, 50}) != 0 {
		t.Error("the hashes that should be 0 are not")
	}
	for _, secret := range slices.Concat(groupSecrets, notCellKeys, someKeys) {
		for _, fresh := range append(numbersFrom(-20, 40, 1), freshNumbers...) {
			if got := impl.NextSecret(secret, fresh); got != referenceNext(secret, fresh) || !impl.IsValidKey(got) {
				t.Errorf("NextSecret(%d, %d) = %d, want %d", secret, fresh, got, referenceNext(secret, fresh))
			}
		}
	}
}

func TestFreshSecret(t *testing.T) {
	cases := []struct{ fresh, want int }{
		{60, 1986149851}, {0, 171762784}, {1, 1597866939}, {-1, 893142276}, {50, 610010183}, {impl.Modulus, 171762784}, {60 + impl.Modulus, 1986149851}, {60 - impl.Modulus, 1986149851},
		{impl.MaxValue, 1144066017}, {math.MinInt, 1614521768}, {math.MaxInt, 1597866939},
		// hashes that would be 0, that are 1, and that are the greatest key
		{1880747224, 1}, {1880747224 - impl.Modulus, 1}, {755407305, 1}, {858603496, impl.Modulus - 1},
		{342622541, 9}, {1128919341, 77},
	}
	for _, c := range cases {
		if got := impl.FreshSecret(c.fresh); got != c.want {
			t.Errorf("FreshSecret(%d) = %d, want %d", c.fresh, got, c.want)
		}
	}
	if impl.KeyedHash(1880747224, []int{139}) != 0 {
		t.Error("the hash that should be 0 is not")
	}
	for _, fresh := range slices.Concat(freshNumbers, someKeys, notCellKeys, groupSecrets, numbersFrom(-1000, 2000, 1), numbersFrom(7, 1000, 2147481)) {
		if got := impl.FreshSecret(fresh); got != referenceFresh(fresh) || !impl.IsValidKey(got) {
			t.Errorf("FreshSecret(%d) = %d, want %d", fresh, got, referenceFresh(fresh))
		}
	}
}

func TestSenderKey(t *testing.T) {
	cases := []struct{ secret, epoch, member, want int }{
		{9, 0, 0, 556459905}, {77, 0, 3, 148340193}, {77, 1, 3, 1574444347}, {77, 0, 4, 149340196}, {77, 5, 3, 836410022}, {77, 5, impl.MaxValue, 1925281465},
		{1, 100000, impl.MaxValue, 2018068407}, {impl.Modulus - 1, 100000, 0, 2012030535}, {1100179177, 2, 3, 1237495022}, {1100179177, 2, 1, 1235495016}, {1986149851, 3, 3, 1369978659},
		// what no group has
		{77, 5, 3 + impl.Modulus, 836410022}, {77, 5 + impl.Modulus, 3, 836410022}, {77 + impl.Modulus, 5, 3, 836410022}, {0, 0, 0, 1147743721}, {-1, -1, -1, 263556354},
		{77, math.MinInt, math.MaxInt, 1589099173},
		// hashes that would be 0, that are 1, and that are the greatest key
		{315812231, 5, 3, 1}, {77, 5, 737597457, 1}, {1178058131, 5, 3, 1}, {77, 5, 113903505, 1}, {1601049978, 5, 3, impl.Modulus - 1}, {77, 5, 1361291409, impl.Modulus - 1},
	}
	for _, c := range cases {
		for _, g := range []impl.SenderGroup{group(0, c.epoch, c.secret), group(7, c.epoch, c.secret, 1, 3, 9), group(-1, c.epoch, c.secret, 9, 3)} {
			if got := impl.SenderKey(g, c.member); got != c.want {
				t.Errorf("SenderKey(%v, %d) = %d, want %d", g, c.member, got, c.want)
			}
		}
	}
	if impl.KeyedHash(315812231, []int{149, 5, 3}) != 0 || impl.KeyedHash(77, []int{149, 5, 737597457}) != 0 {
		t.Error("the hashes that should be 0 are not")
	}
	for _, g := range append(someGroups(), notGroups()...) {
		for _, member := range membersFor(g) {
			if got := impl.SenderKey(g, member); got != referenceSender(g, member) || !impl.IsValidKey(got) {
				t.Errorf("SenderKey(%s, %d) = %d, want %d", brief(g), member, got, referenceSender(g, member))
			}
		}
	}
}

// The key depends on the secret, on the epoch and on the member, and on nothing else.
func TestSenderKeyDiffers(t *testing.T) {
	seen := map[int][3]int{}
	for secret := 1; secret <= 12; secret++ {
		for epoch := range 12 {
			for member := range 12 {
				key := impl.SenderKey(group(7, epoch, secret, 1, 3), member)
				if before, again := seen[key]; again {
					t.Errorf("the key of %v is that of %v", [3]int{secret, epoch, member}, before)
				}
				seen[key] = [3]int{secret, epoch, member}
			}
		}
	}
}

func TestAddMember(t *testing.T) {
	full := numbersFrom(1, 8, 3)
	cases := []struct {
		g             impl.SenderGroup
		member, fresh int
		want          impl.SenderGroup
	}{
		{group(0, 0, 9), 3, 50, group(0, 1, 1316147123, 3)},
		{group(0, 1, 1316147123, 3), 1, 51, group(0, 2, 1100179177, 1, 3)},
		// in front, in the middle and at the end
		{group(7, 5, 77, 1, 3, 9), 0, 50, group(7, 6, 1819386588, 0, 1, 3, 9)},
		{group(7, 5, 77, 1, 3, 9), 2, 50, group(7, 6, 1819386588, 1, 2, 3, 9)},
		{group(7, 5, 77, 1, 3, 9), 4, 50, group(7, 6, 1819386588, 1, 3, 4, 9)},
		{group(7, 5, 77, 1, 3, 9), 10, 50, group(7, 6, 1819386588, 1, 3, 9, 10)},
		{group(7, 5, 77, 1, 3, 9), impl.MaxValue, 50, group(7, 6, 1819386588, 1, 3, 9, impl.MaxValue)},
		{group(7, 5, 77, impl.MaxValue), impl.MaxValue - 1, 0, group(7, 6, 1769386438, impl.MaxValue-1, impl.MaxValue)},
		{group(7, 5, 77, 0), impl.MaxValue, 0, group(7, 6, 1769386438, 0, impl.MaxValue)},
		// the last place
		{group(7, 5, 77, full[:7]...), 22, 50, group(7, 6, 1819386588, full...)},
		{group(7, 5, 77, full[1:]...), 1, 50, group(7, 6, 1819386588, full...)},
		{group(7, 5, 77, without(full, 3)...), 10, 50, group(7, 6, 1819386588, full...)},
		// the limits
		{group(0, 99999, 77), 3, 50, group(0, 100000, 1819386588, 3)},
		{group(impl.MaxValue, 99999, 1), 0, 50, group(impl.MaxValue, 100000, 1509587615, 0)},
		{group(impl.MaxValue, 0, impl.Modulus-1), 0, 50, group(impl.MaxValue, 1, 1557947738, 0)},
		// secrets that would be 0, that are 1, that are the greatest key, and that stay
		{group(7, 5, 77), 3, 1987247866, group(7, 6, 1, 3)},
		{group(7, 5, 77), 3, 1363553914, group(7, 6, 1, 3)},
		{group(7, 5, 77), 3, 463458171, group(7, 6, impl.Modulus-1, 3)},
		{group(7, 5, 315971580), 3, 50, group(7, 6, 315971580, 3)},
	}
	for _, c := range cases {
		if got, ok := impl.AddMember(c.g, c.member, c.fresh); !ok || !sameGroup(got, c.want) {
			t.Errorf("AddMember(%v, %d, %d) = %v, %v, want %v, true", c.g, c.member, c.fresh, got, ok, c.want)
		}
		adding.reject(t, c.want, c.member, c.fresh)
	}
}

func TestRemoveMember(t *testing.T) {
	full := numbersFrom(1, 8, 3)
	cases := []struct {
		g             impl.SenderGroup
		member, fresh int
		want          impl.SenderGroup
	}{
		{group(0, 2, 1100179177, 1, 3), 1, 60, group(0, 3, 1986149851, 3)},
		{group(0, 2, 1100179177, 1, 3), 3, 60, group(0, 3, 1986149851, 1)},
		// the only one, the first, a middle and the last one
		{group(7, 5, 77, 3), 3, 50, group(7, 6, 610010183)},
		{group(7, 5, 77, 1, 3, 9), 1, 50, group(7, 6, 610010183, 3, 9)},
		{group(7, 5, 77, 1, 3, 9), 3, 50, group(7, 6, 610010183, 1, 9)},
		{group(7, 5, 77, 1, 3, 9), 9, 50, group(7, 6, 610010183, 1, 3)},
		{group(7, 5, 77, 0, impl.MaxValue), 0, 0, group(7, 6, 171762784, impl.MaxValue)},
		{group(7, 5, 77, 0, impl.MaxValue), impl.MaxValue, 0, group(7, 6, 171762784, 0)},
		{group(7, 5, 77, full...), 1, 50, group(7, 6, 610010183, full[1:]...)},
		{group(7, 5, 77, full...), 10, 50, group(7, 6, 610010183, without(full, 3)...)},
		{group(7, 5, 77, full...), 22, 50, group(7, 6, 610010183, full[:7]...)},
		// the limits
		{group(0, 99999, 1, 3), 3, 60, group(0, 100000, 1986149851)},
		{group(impl.MaxValue, 99999, impl.Modulus-1, 3), 3, 60, group(impl.MaxValue, 100000, 1986149851)},
		// secrets that would be 0, that are 1, that are the greatest key, and that stay
		{group(7, 5, 77, 3), 3, 1880747224, group(7, 6, 1)},
		{group(7, 5, 77, 3), 3, 755407305, group(7, 6, 1)},
		{group(7, 5, 77, 3), 3, 858603496, group(7, 6, impl.Modulus-1)},
		{group(7, 5, 77, 3), 3, 1128919341, group(7, 6, 77)},
	}
	for _, c := range cases {
		if got, ok := impl.RemoveMember(c.g, c.member, c.fresh); !ok || !sameGroup(got, c.want) {
			t.Errorf("RemoveMember(%v, %d, %d) = %v, %v, want %v, true", c.g, c.member, c.fresh, got, ok, c.want)
		}
		removing.reject(t, c.want, c.member, c.fresh)
	}
}

func TestChangesAgainstReference(t *testing.T) {
	for _, c := range []changing{adding, removing} {
		changed := 0
		for i, g := range someGroups() {
			for j, member := range membersFor(g) {
				fresh := freshNumbers[(i+j)%len(freshNumbers)]
				if next, ok := c.check(t, g, member, fresh); ok {
					c.reject(t, next, member, fresh)
					changed++
				}
			}
			for _, fresh := range freshNumbers {
				c.check(t, g, 3, fresh)
				c.check(t, g, 4, fresh)
			}
		}
		if changed < 500 {
			t.Errorf("%s changed only %d groups", c.name, changed)
		}
	}
}

// Each reason for a refusal alone and several together.
func TestChangesReject(t *testing.T) {
	for _, g := range notGroups() {
		for _, member := range membersFor(g) {
			adding.reject(t, g, member, 50)
			removing.reject(t, g, member, 50)
		}
	}
	for _, g := range someGroups() {
		for i, bad := range notRounds {
			adding.reject(t, g, bad, freshNumbers[i%len(freshNumbers)])
			removing.reject(t, g, bad, freshNumbers[i%len(freshNumbers)])
		}
		for _, member := range membersFor(g) {
			if slices.Contains(g.Members, member) {
				adding.reject(t, g, member, 50)
			} else {
				removing.reject(t, g, member, 50)
			}
			// the last epoch, and a full group
			last := group(g.Id, 100000, g.Secret, g.Members...)
			adding.reject(t, last, member, 50)
			removing.reject(t, last, member, 50)
			if len(g.Members) == 8 {
				adding.reject(t, g, member, 50)
			}
		}
	}
	// what is valid only after the change
	adding.reject(t, group(7, -1, 77, 1, 3), 2, 50)
	removing.reject(t, group(7, -1, 77, 1, 3), 3, 50)
	removing.reject(t, group(7, 5, 77, numbersFrom(0, 9, 1)...), 3, 50)
	removing.reject(t, group(7, 5, 77, 3, 3), 3, 50)
	removing.reject(t, group(7, 5, 77, 9, 3), 3, 50)
	removing.reject(t, group(7, 5, 77, -1, 3), -1, 50)
	removing.reject(t, group(7, 5, 77, 3, impl.MaxValue+1), impl.MaxValue+1, 50)
	removing.reject(t, group(7, 5, 0, 1, 3), 3, 50)
	removing.reject(t, group(7, 5, impl.Modulus, 1, 3), 3, 50)
	adding.reject(t, group(7, 5, 0, 1, 3), 2, 50)
}

// changeAll adds or removes the members one after the other and returns the last group.
func changeAll(t *testing.T, c changing, g impl.SenderGroup, members []int, fresh int) impl.SenderGroup {
	t.Helper()
	for i, member := range members {
		g = c.changed(t, g, member, fresh+i)
	}
	return g
}

// In whatever order members come and go, the same ones are in the group, in the same epoch and with the same
// secret.
func TestMembersInEveryOrder(t *testing.T) {
	members := []int{0, 3, 9, impl.MaxValue}
	secret := 77
	for i := range members {
		secret = referenceNext(secret, 50+i)
	}
	for _, order := range orders(len(members)) {
		added := make([]int, len(members))
		for i, place := range order {
			added[i] = members[place]
		}
		full := changeAll(t, adding, group(7, 5, 77), added, 50)
		if !sameGroup(full, group(7, 9, secret, members...)) {
			t.Fatalf("the members %v make the group %v", added, full)
		}
		for _, other := range orders(len(members)) {
			left := full
			for i, place := range other {
				left = removing.changed(t, left, members[place], 60+i)
				stayed := slices.Sorted(slices.Values(other[i+1:]))
				for j, stays := range stayed {
					stayed[j] = members[stays]
				}
				if !sameGroup(left, group(7, 10+i, referenceFresh(60+i), stayed...)) {
					t.Fatalf("after %v have left: %v", other[:i+1], left)
				}
			}
		}
	}
}

// Members come and go at random, in full and in empty groups; each person in the group sends to all others, and
// whoever was removed reads nothing that is sealed later, until added again.
func TestManyChanges(t *testing.T) {
	random := rand.New(rand.NewPCG(20, 1))
	for _, most := range []int{2, 8, 9, 12} {
		g := group(7, 0, 77)
		held := map[int]impl.SenderGroup{}
		for epoch := 1; epoch <= 150; {
			member := random.IntN(most)
			c := adding
			if random.IntN(2) == 0 {
				c = removing
			}
			next, ok := c.check(t, g, member, random.Int())
			if !ok {
				continue
			}
			if next.Epoch != epoch || slices.Contains(next.Members, member) == slices.Contains(g.Members, member) {
				t.Fatalf("%s of %d turns %v into %v", c.name, member, g, next)
			}
			// who leaves still has the group so far
			held[member] = g
			g = next
			for _, stays := range g.Members {
				held[stays] = g
			}
			checkHeld(t, g, held, epoch)
			epoch++
		}
	}
}

// checkHeld stops the test if a person that is not in the group opens what one of the members seals, or if one
// that is in the group does not.
func checkHeld(t *testing.T, g impl.SenderGroup, held map[int]impl.SenderGroup, counter int) {
	t.Helper()
	for _, sender := range g.Members {
		body := mixed(sender, counter)
		cell := sealFor(t, held[sender], sender, counter, body)
		for person, own := range held {
			if slices.Contains(g.Members, person) {
				checkFrom(t, own, counter, cell, sender, body)
			} else {
				rejectFrom(t, own, counter, cell)
			}
		}
	}
}

func TestSealForGroup(t *testing.T) {
	cases := []struct {
		g               impl.SenderGroup
		member, counter int
		body            []byte
		cell            []byte
	}{
		{group(0, 0, 9, 3), 3, 0, []byte("hi"), []byte{240, 52, 221, 33, 91, 109, 191, 79, 30, 43, 119, 2, 204, 212, 27, 161, 102, 105, 171, 43, 92, 162, 209, 112}},
		{group(7, 5, 77, 1, 3, 9), 3, 5, []byte("hello"), []byte{200, 15, 181, 245, 63, 130, 200, 57, 47, 101, 218, 141, 126, 175, 30, 204, 185, 228, 78, 247, 42, 157, 199, 69}},
		{group(7, 5, 77, 1, 3, 9), 1, 5, []byte("hello"), []byte{160, 231, 141, 205, 23, 90, 160, 46, 221, 202, 246, 97, 10, 242, 25, 127, 35, 6, 40, 136, 61, 112, 34, 89}},
		{group(7, 5, 77, 1, 3, 9), 9, 0, nil, []byte{203, 13, 23, 51, 142, 39, 254, 21, 106, 254, 209, 226, 50, 193, 142, 155, 230, 111, 55, 62, 32, 186, 161, 2}},
		{group(7, 5, 77, 3), 3, impl.MaxValue, []byte{0, 1, 2, 3, 4, 5, 6, 7, 8, 9, 10, 11, 12, 13},
			[]byte{178, 2, 55, 123, 191, 3, 71, 139, 207, 19, 87, 155, 223, 35, 103, 171, 198, 179, 222, 72, 114, 250, 7, 80}},
		{group(0, 0, 77, impl.MaxValue), impl.MaxValue, 1, []byte("x"), []byte{255, 66, 252, 21, 116, 17, 237, 7, 97, 249, 207, 229, 57, 204, 157, 173, 252, 138, 86, 97, 57, 114, 66, 112}},
		{group(impl.MaxValue, 100000, 1, 0), 0, 7, []byte("x"), []byte{86, 153, 83, 208, 67, 245, 229, 20, 130, 46, 26, 67, 172, 83, 57, 94, 193, 100, 68, 100, 126, 230, 127, 19}},
		{group(1, 100000, impl.Modulus-1, 0, impl.MaxValue), impl.MaxValue, 7, []byte("x"),
			[]byte{170, 237, 167, 235, 212, 252, 98, 7, 235, 13, 111, 14, 237, 10, 102, 1, 218, 242, 73, 223, 199, 107, 149, 103}},
		// keys that would be 0
		{group(7, 5, 315812231, 3), 3, 5, []byte("zero"), []byte{31, 101, 30, 76, 156, 220, 58, 240, 230, 26, 141, 62, 47, 94, 203, 120, 99, 141, 245, 156, 73, 245, 253, 90}},
		{group(7, 5, 77, 3, 737597457), 737597457, 5, []byte("zero"), []byte{31, 101, 30, 76, 156, 220, 58, 240, 230, 26, 141, 62, 47, 94, 203, 120, 99, 141, 245, 156, 73, 245, 253, 90}},
	}
	for _, c := range cases {
		if got, ok := impl.SealForGroup(c.g, c.member, c.counter, c.body); !ok || !bytes.Equal(got, c.cell) {
			t.Errorf("SealForGroup(%v, %d, %d, %v) = %v, %v, want %v, true", c.g, c.member, c.counter, c.body, got, ok, c.cell)
		}
		checkFrom(t, c.g, c.counter, c.cell, c.member, c.body)
	}
}

func TestSealForGroupAgainstReference(t *testing.T) {
	for i, g := range someGroups() {
		for j, member := range g.Members {
			counter := someCounters[(i+j)%len(someCounters)]
			body := mixed((i+j)%15, i)
			checkFrom(t, g, counter, sealFor(t, g, member, counter, body), member, body)
			checkOpened(t, impl.SenderKey(g, member), counter, sealFor(t, g, member, counter, body), plainOf(impl.TextKind, body))
		}
	}
	for _, counter := range someCounters {
		for _, body := range someBodies() {
			checkFrom(t, group(7, 5, 77, 1, 3, 9), counter, sealFor(t, group(7, 5, 77, 1, 3, 9), 3, counter, body), 3, body)
		}
	}
}

// Each reason for a refusal alone and several together.
func TestSealForGroupRejects(t *testing.T) {
	for _, g := range notGroups() {
		for _, member := range append([]int{0, 3, 4}, g.Members[:min(len(g.Members), 10)]...) {
			rejectSealFor(t, g, member, 5, []byte("hello"))
			rejectSealFor(t, g, member, -1, []byte("hello"))
			rejectSealFor(t, g, member, 5, mixed(15, 3))
		}
	}
	for _, g := range someGroups() {
		for _, member := range membersFor(g) {
			if !slices.Contains(g.Members, member) {
				rejectSealFor(t, g, member, 5, []byte("hello"))
				rejectSealFor(t, g, member, impl.MaxValue+1, []byte("hello"))
				rejectSealFor(t, g, member, 5, mixed(15, 3))
			}
		}
	}
	g := group(7, 5, 77, 1, 3, 9)
	for _, member := range append([]int{4}, g.Members...) {
		for _, counter := range notCounters {
			rejectSealFor(t, g, member, counter, nil)
			rejectSealFor(t, g, member, counter, []byte("hello"))
			rejectSealFor(t, g, member, counter, mixed(15, 3))
		}
		for _, body := range notBodies() {
			rejectSealFor(t, g, member, 0, body)
			rejectSealFor(t, g, member, impl.MaxValue, body)
		}
	}
}

// In groups of every size, what each member seals is opened with that member as the sender, at its counter only.
func TestEveryMemberKnowsWhoSent(t *testing.T) {
	for count := 1; count <= 8; count++ {
		for i, members := range [][]int{numbersFrom(0, count, 1), numbersFrom(1, count, 3), numbersFrom(impl.MaxValue-count+1, count, 1), numbersFrom(5, count, 1<<34)} {
			g := group(7, groupEpochs[count], groupSecrets[(count+i)%len(groupSecrets)], members...)
			for _, member := range members {
				for _, counter := range []int{0, 5, impl.MaxValue} {
					for _, body := range [][]byte{nil, []byte("hello"), mixed(14, count)} {
						cell := sealFor(t, g, member, counter, body)
						checkFrom(t, g, counter, cell, member, body)
						for _, other := range []int{counter - 1, counter + 1, 1, counter + impl.Modulus + 1, -1, -counter - 1, impl.MaxValue + 1, math.MinInt, math.MaxInt} {
							rejectFrom(t, g, other, cell)
						}
					}
				}
			}
		}
	}
	// no other counter for a long way
	g := group(7, 5, 77, 1, 3, 9)
	cell := sealFor(t, g, 3, 50, []byte("hello"))
	for counter := range 1000 {
		if counter != 50 {
			rejectFrom(t, g, counter, cell)
		}
	}
}

// The cells of other groups stay closed: of another secret, another epoch, another member; the identifier is no
// part of the key.
func TestOpenFromOtherGroups(t *testing.T) {
	g := group(7, 5, 77, 1, 3, 9)
	checkEverySender(t, g, 5)
	for _, member := range g.Members {
		cell := sealFor(t, g, member, 5, []byte("hello"))
		for _, secret := range append(slices.Clone(groupSecrets), numbersFrom(1, 200, 1)...) {
			if secret != 77 {
				rejectFrom(t, group(7, 5, secret, 1, 3, 9), 5, cell)
			}
		}
		for _, epoch := range append(slices.Clone(groupEpochs), numbersFrom(0, 200, 1)...) {
			if epoch != 5 {
				rejectFrom(t, group(7, epoch, 77, 1, 3, 9), 5, cell)
			}
		}
		rejectFrom(t, group(7, 5, 77), 5, cell)
		rejectFrom(t, group(7, 5, 77, 0, 2, 4, 8, 10, 500, impl.MaxValue), 5, cell)
		rejectFrom(t, group(7, 5, 77, without(g.Members, slices.Index(g.Members, member))...), 5, cell)
		for _, id := range someRounds {
			checkFrom(t, group(id, 5, 77, 1, 3, 9), 5, cell, member, []byte("hello"))
			checkFrom(t, group(id, 5, 77, member), 5, cell, member, []byte("hello"))
		}
	}
	for other := range 300 {
		if !slices.Contains(g.Members, other) {
			rejectFrom(t, g, 5, memberCell(g, other, 5, []byte("hello")))
		}
	}
}

// A member that was removed holds the group of the old epoch and opens nothing that is sealed from then on, whatever
// happens to the group later.
func TestWhoHasLeftReadsNothingNew(t *testing.T) {
	for count := 1; count <= 8; count++ {
		old := group(7, 5, 77, numbersFrom(1, count, 3)...)
		for _, member := range old.Members {
			before := sealFor(t, old, member, 5, []byte("before"))
			left := removing.changed(t, old, member, 60)
			rejectSealFor(t, left, member, 5, []byte("hello"))
			rejectFrom(t, left, 5, before)
			added := adding.changed(t, left, 500, 61)
			later := []impl.SenderGroup{left, added, removing.changed(t, added, 500, 62), removing.changed(t, added, added.Members[0], 63)}
			for _, g := range later {
				for _, sender := range append([]int{member}, g.Members...) {
					cell := memberCell(g, sender, 5, []byte("hello"))
					rejectFrom(t, old, 5, cell)
					// nor with other epochs and members of the old secret
					for epoch := range 12 {
						rejectFrom(t, group(7, epoch, 77, old.Members...), 5, cell)
					}
					rejectFrom(t, group(7, g.Epoch, 77, g.Members...), 5, cell)
				}
				checkEverySender(t, g, 5)
			}
			for _, sender := range old.Members {
				if impl.SenderKey(left, sender) == impl.SenderKey(old, sender) {
					t.Errorf("%d has the same key in %v and in %v", sender, old, left)
				}
			}
		}
	}
}

// After a removal the secret tells nothing of the earlier one: it is the same whatever that was, and it is none of
// those that whoever has left could derive from it as if a member had been added.
func TestSecretAfterRemoval(t *testing.T) {
	for _, fresh := range freshNumbers {
		for _, secret := range groupSecrets {
			left := removing.changed(t, group(7, 5, secret, 1, 3, 9), 3, fresh)
			if left.Secret != referenceFresh(fresh) {
				t.Errorf("the secret after %d with the fresh number %d is %d, want %d", secret, fresh, left.Secret, referenceFresh(fresh))
			}
		}
	}
	left := removing.changed(t, group(7, 5, 77, 1, 3, 9), 3, 123456789)
	for fresh := -2000; fresh < 2000; fresh++ {
		if left.Secret == impl.NextSecret(77, fresh) {
			t.Errorf("the secret after the removal is NextSecret(77, %d)", fresh)
		}
	}
}

// A member that was added opens what is sealed from then on and nothing of earlier epochs.
func TestWhoHasJoinedReadsFromThenOn(t *testing.T) {
	for count := 0; count < 8; count++ {
		old := group(7, 5, 77, numbersFrom(1, count, 3)...)
		for _, member := range []int{0, 2, 3, 11, 500, impl.MaxValue} {
			joined := adding.changed(t, old, member, 50)
			checkEverySender(t, joined, 5)
			for _, sender := range old.Members {
				rejectFrom(t, joined, 5, sealFor(t, old, sender, 5, []byte("before")))
				rejectFrom(t, old, 5, sealFor(t, joined, sender, 5, []byte("hello")))
			}
			rejectFrom(t, old, 5, sealFor(t, joined, member, 5, []byte("hello")))
			rejectSealFor(t, old, member, 5, []byte("hello"))
		}
	}
}

// Of members with the same key, the first one counts as the sender: those that have the same remainder, and those
// whose hashes are 0 and 1.
func TestMembersWithOneKey(t *testing.T) {
	for _, c := range []struct{ first, second int }{{3, 3 + impl.Modulus}, {0, impl.Modulus}, {9, 9 + 400*impl.Modulus}, {113903505, 737597457}, {113903505, 113903505 + impl.Modulus}} {
		for _, members := range [][]int{{c.first, c.second}, {1, c.first, c.second}, {c.first, c.second, impl.MaxValue}, {c.first, c.first + 5, c.second, c.second + 1}} {
			slices.Sort(members)
			g := group(7, 5, 77, members...)
			if impl.SenderKey(g, c.first) != impl.SenderKey(g, c.second) {
				t.Fatalf("the keys of %d and %d differ", c.first, c.second)
			}
			for _, member := range []int{c.first, c.second} {
				checkFrom(t, g, 5, sealFor(t, g, member, 5, []byte("hello")), c.first, []byte("hello"))
				alone := group(7, 5, 77, c.second)
				checkFrom(t, alone, 5, sealFor(t, g, member, 5, []byte("hello")), c.second, []byte("hello"))
			}
			rejectFrom(t, g, 5, referenceCell(referenceSender(g, c.first), 5, plainOf(2, []byte("hello"))))
		}
	}
}

// Each byte changed to every other value.
func TestOpenFromGroupChanged(t *testing.T) {
	g := group(7, 5, 77, 1, 3, 9)
	for _, member := range g.Members {
		cell := sealFor(t, g, member, 5, []byte("hello"))
		for _, changed := range changedCells(cell) {
			rejectFrom(t, g, 5, changed)
		}
		checkFrom(t, g, 5, cell, member, []byte("hello"))
	}
	for seed := range 300 {
		rejectFrom(t, g, seed%9, impl.CoverCell(seed))
	}
}

// Cells of every other length, in front of which or at the beginning of which a message is.
func TestOpenFromGroupSizes(t *testing.T) {
	g := group(7, 5, 77, 1, 3, 9)
	for _, member := range g.Members {
		for _, other := range otherSizes(sealFor(t, g, member, 5, []byte("hello"))) {
			rejectFrom(t, g, 5, other)
		}
	}
	for _, cell := range [][]byte{nil, {}, make([]byte, 24), bytes.Repeat([]byte{255}, 24)} {
		rejectFrom(t, g, 5, cell)
		rejectFrom(t, group(7, 5, 77), 5, cell)
	}
}

// Cells that open with the key of a member, but say something else than a text.
func TestOpenFromGroupOfOtherKinds(t *testing.T) {
	g := group(7, 5, 77, 1, 3, 9)
	for _, member := range g.Members {
		key := referenceSender(g, member)
		for _, p := range somePlains() {
			cell := referenceCell(key, 5, p)
			checkOpened(t, key, 5, cell, p)
			if p.Kind == 1 {
				checkFrom(t, g, 5, cell, member, p.Body)
			} else {
				rejectFrom(t, g, 5, cell)
			}
		}
		checkHeads(key, 5, func(cell []byte, body []byte) { checkFrom(t, g, 5, cell, member, body) }, func(cell []byte) { rejectFrom(t, g, 5, cell) })
	}
}

// Each reason for a refusal alone and several together. The cells are those that would be opened if the group or
// the counter were valid.
func TestOpenFromGroupRejects(t *testing.T) {
	for _, g := range notGroups() {
		for _, member := range append([]int{0, 3}, g.Members[:min(len(g.Members), 10)]...) {
			rejectFrom(t, g, 5, memberCell(g, member, 5, []byte("hello")))
			rejectFrom(t, g, -1, memberCell(g, member, -1, []byte("hello")))
		}
		rejectFrom(t, g, 5, nil)
		rejectFrom(t, g, 5, referenceCell(0, 5, plainOf(1, nil)))
	}
	g := group(7, 5, 77, 1, 3, 9)
	for _, counter := range notCounters {
		for _, member := range g.Members {
			rejectFrom(t, g, counter, memberCell(g, member, counter, []byte("hello")))
			rejectFrom(t, g, counter, memberCell(g, member, 5, []byte("hello")))
		}
	}
	// with the secret itself, with the key 0 and with those of the neighbours
	for _, key := range []int{0, 1, 77, referenceSender(g, 3) - 1, referenceSender(g, 3) + 1} {
		rejectFrom(t, g, 5, referenceCell(key, 5, plainOf(1, []byte("hello"))))
	}
}

func TestOpenFromGroupAgainstReference(t *testing.T) {
	opened := 0
	for i, g := range append(someGroups(), notGroups()...) {
		members := membersFor(g)
		for j := range 8 {
			member := members[(i+j*7)%len(members)]
			if j < len(g.Members) && i%2 == 0 {
				member = g.Members[j]
			}
			counter := append(someCounters, notCounters...)[(i+j)%20]
			for kind := range 3 {
				cell := referenceCell(referenceSender(g, member), counter, plainOf(kind, mixed((i+j)%15, i)))
				got, body, ok := impl.OpenFromGroup(g, counter, cell)
				want, wantBody, wantOk := referenceFrom(g, counter, cell)
				if ok != wantOk || got != want || !bytes.Equal(body, wantBody) {
					t.Fatalf("OpenFromGroup(%s, %d, %v) = %d, %v, %v, want %d, %v, %v", brief(g), counter, cell, got, body, ok, want, wantBody, wantOk)
				}
				if ok {
					opened++
				}
			}
		}
	}
	if opened < 200 {
		t.Errorf("only %d cells were opened", opened)
	}
}

// checkEqualGroups reports an error if EqualGroups, in one order or the other, does not return want.
func checkEqualGroups(t *testing.T, a impl.SenderGroup, b impl.SenderGroup, want bool) {
	t.Helper()
	if impl.EqualGroups(a, b) != want || impl.EqualGroups(b, a) != want {
		t.Errorf("EqualGroups(%s, %s) is not %v", brief(a), brief(b), want)
	}
}

func TestEqualGroups(t *testing.T) {
	list := slices.Concat(someGroups()[:80], notGroups()[:150], notGroups()[len(notGroups())-60:])
	for _, a := range list {
		for _, b := range list {
			checkEqualGroups(t, a, b, sameGroup(a, b))
		}
	}
	for _, g := range append(someGroups(), notGroups()...) {
		checkEqualGroups(t, g, group(g.Id, g.Epoch, g.Secret, slices.Clone(g.Members)...), true)
		for _, difference := range []int{1, -1, 1 << 32, math.MinInt, impl.Modulus} {
			checkEqualGroups(t, g, group(g.Id+difference, g.Epoch, g.Secret, g.Members...), false)
			checkEqualGroups(t, g, group(g.Id, g.Epoch+difference, g.Secret, g.Members...), false)
			checkEqualGroups(t, g, group(g.Id, g.Epoch, g.Secret+difference, g.Members...), false)
			checkEqualGroups(t, g, group(g.Id+difference, g.Epoch-difference, g.Secret, g.Members...), false)
			checkEqualGroups(t, g, group(g.Id, g.Epoch+difference, g.Secret-difference, g.Members...), false)
			for place := range min(len(g.Members), 10) {
				other := slices.Clone(g.Members)
				other[place] += difference
				checkEqualGroups(t, g, group(g.Id, g.Epoch, g.Secret, other...), false)
			}
		}
		for place := range min(len(g.Members), 10) {
			checkEqualGroups(t, g, group(g.Id, g.Epoch, g.Secret, without(g.Members, place)...), false)
			checkEqualGroups(t, g, group(g.Id, g.Epoch, g.Secret, g.Members[:place]...), false)
			checkEqualGroups(t, g, group(g.Id, g.Epoch, g.Secret, slices.Insert(slices.Clone(g.Members), place, 0)...), false)
		}
		checkEqualGroups(t, g, group(g.Id, g.Epoch, g.Secret, append(slices.Clone(g.Members), 0)...), false)
	}
	checkEqualGroups(t, impl.SenderGroup{}, group(0, 0, 0, []int{}...), true)
	checkEqualGroups(t, group(7, 5, 77, 1, 3), group(7, 5, 77, 3, 1), false)
	checkEqualGroups(t, group(7, 5, 77), group(5, 7, 77), false)
	checkEqualGroups(t, group(7, 5, 77), group(77, 5, 7), false)
}

// roomyGroup returns a group with the content of g and spare capacity behind its members, and a function that
// tells whether all of it is as it was.
func roomyGroup(g impl.SenderGroup) (impl.SenderGroup, func() bool) {
	members, unchanged := roomy(g.Members)
	return group(g.Id, g.Epoch, g.Secret, members...), unchanged
}

func TestGroupsCopy(t *testing.T) {
	for _, g := range append(someGroups(), notGroups()...) {
		own, unchanged := roomyGroup(g)
		if impl.IsValidGroup(own) != referenceGrouped(g) || !impl.EqualGroups(own, g) || !impl.EqualGroups(g, own) || impl.SenderKey(own, 3) != referenceSender(g, 3) || !unchanged() {
			t.Errorf("a function of %v goes by the spare capacity or changes it", g)
		}
		for _, c := range []changing{adding, removing} {
			for _, member := range append([]int{0, 2, 4, impl.MaxValue, -1}, g.Members[:min(len(g.Members), 9)]...) {
				got, _ := c.call(own, member, 50)
				checkFresh(t, c.name, got.Members, unchanged)
				c.check(t, own, member, 50)
				if !sameGroup(own, g) {
					t.Errorf("%v became %v", g, own)
				}
			}
		}
	}
}

func TestGroupCellsCopy(t *testing.T) {
	for i, g := range append(someGroups(), notGroups()...) {
		for _, member := range append([]int{4}, g.Members[:min(len(g.Members), 2)]...) {
			own, unchanged := roomyGroup(g)
			body, bodyUnchanged := roomy(mixed(i%16, i))
			_, wantOk := impl.SealForGroup(g, member, 5, body)
			sealed, ok := impl.SealForGroup(own, member, 5, body)
			before := slices.Clone(sealed)
			checkFresh(t, "SealForGroup", sealed, bodyUnchanged)
			if again, _ := impl.SealForGroup(own, member, 5, body); ok != wantOk || !bytes.Equal(again, before) || !unchanged() {
				t.Errorf("SealForGroup(%v, %d, 5, %v) after an earlier result was written to is %v, want %v", g, member, body, again, before)
			}
			cell, cellUnchanged := roomy(memberCell(g, member, 5, mixed(i%15, i)))
			want, wantBody, wantOpened := referenceFrom(g, 5, cell)
			got, opened, ok := impl.OpenFromGroup(own, 5, cell)
			if ok != wantOpened || got != want || !bytes.Equal(opened, wantBody) {
				t.Fatalf("OpenFromGroup(%s, 5, %v) = %d, %v, %v, want %d, %v, %v", brief(g), cell, got, opened, ok, want, wantBody, wantOpened)
			}
			checkFresh(t, "OpenFromGroup", opened, cellUnchanged)
			if got, again, _ := impl.OpenFromGroup(own, 5, cell); got != want || !bytes.Equal(again, wantBody) || !unchanged() {
				t.Errorf("OpenFromGroup(%v, 5, %v) after an earlier result was written to is %d, %v, want %d, %v", g, cell, got, again, want, wantBody)
			}
		}
	}
}
