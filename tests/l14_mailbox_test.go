package tests

import (
	"bytes"
	"fmt"
	"math"
	"slices"
	"testing"

	"loop.example/g00516/impl"
)

// someDirections lists the two directions and other integers, which are allowed too.
var someDirections = []int{0, 1, 2, -1, 3, 77, impl.Modulus - 1, impl.Modulus, impl.Modulus + 1, -impl.Modulus, impl.MaxValue,
	impl.MaxValue + 1, -impl.MaxValue, math.MinInt, math.MinInt + 1, math.MaxInt, math.MaxInt - 1}

// someRounds lists rounds, the first and the last one and those about the last one at which FreeRound begins.
var someRounds = []int{0, 1, 2, 5, 6, 77, impl.Modulus - 1, impl.Modulus, impl.Modulus + 5, 1 << 32, impl.MaxValue - 21,
	impl.MaxValue - 20, impl.MaxValue - 19, impl.MaxValue - 1, impl.MaxValue}

// notRounds lists integers that are no rounds. Each has the same hashes as a round.
var notRounds = append([]int{impl.MaxValue + 19, impl.MaxValue + 20, -19, -20, -21}, notCounters...)

// someRowCounts lists numbers of rows, the least and the greatest one among them.
var someRowCounts = []int{1, 2, 3, 7, 10, 32, 63, 64}

// notRowCounts lists integers that are no number of rows of a mailbox.
var notRowCounts = append([]int{0}, notRows...)

// someBodies lists bodies without bytes, of one byte, of the greatest length, and others.
func someBodies() [][]byte {
	return [][]byte{nil, {}, {0}, {255}, []byte("hello"), make([]byte, 14), mixed(13, 3), mixed(14, 3), bytes.Repeat([]byte{255}, 14)}
}

// notBodies lists bodies that are too long.
func notBodies() [][]byte {
	var list [][]byte
	for _, length := range notBodyLengths {
		list = append(list, mixed(length, 5), make([]byte, length))
	}
	return list
}

// mailbox returns the Mailbox with these fields.
func mailbox(key int, sent int, received int) impl.Mailbox {
	return impl.Mailbox{Key: key, Sent: sent, Received: received}
}

// referenceRow is the row of a key as chapter 14 states it.
func referenceRow(key int, round int, direction int, rows int) int {
	return referenceChild(referenceHash([]int{key, 79, round, direction, key}), 0) % rows
}

// referenceDirectionKey is the key of a direction as chapter 14 states it.
func referenceDirectionKey(key int, direction int) int {
	if h := referenceHash([]int{key, 83, direction, key}); h != 0 {
		return h
	}
	return 1
}

// directionCell is the cell with this kind and counter as chapter 14 states it, whether or not the key is valid.
func directionCell(key int, direction int, counter int, kind int, body []byte) []byte {
	return referenceCell(referenceDirectionKey(key, direction), counter, plainOf(kind, body))
}

// textCell is the cell of a message as chapter 14 states it.
func textCell(key int, direction int, counter int, body []byte) []byte {
	return directionCell(key, direction, counter, 1, body)
}

// referenceCollisions compares every element with all earlier ones.
func referenceCollisions(rows []int) int {
	count := 0
	for i, row := range rows {
		if slices.Contains(rows[:i], row) {
			count++
		}
	}
	return count
}

// rowsOfKeys returns the rows that the reference gives for direction 0.
func rowsOfKeys(keys []int, round int, rows int) []int {
	var list []int
	for _, key := range keys {
		list = append(list, referenceRow(key, round, 0, rows))
	}
	return list
}

// checkSent stops the test if m does not send body, so that only Sent counts up, as this cell.
func checkSent(t *testing.T, m impl.Mailbox, direction int, body []byte, want []byte) impl.Mailbox {
	t.Helper()
	next, cell, ok := impl.SendToMailbox(m, direction, body)
	if !ok || next != mailbox(m.Key, m.Sent+1, m.Received) || !bytes.Equal(cell, want) {
		t.Fatalf("SendToMailbox(%v, %d, %v) = %v, %v, %v, want the cell %v", m, direction, body, next, cell, ok, want)
	}
	return next
}

// rejectSent stops the test if SendToMailbox does not return m, an empty slice and false.
func rejectSent(t *testing.T, m impl.Mailbox, direction int, body []byte) {
	t.Helper()
	if next, cell, ok := impl.SendToMailbox(m, direction, body); ok || next != m || len(cell) != 0 {
		t.Fatalf("SendToMailbox(%v, %d, %s) = %v, %v, %v, want the same mailbox, empty, false", m, direction, brief(body), next, cell, ok)
	}
}

// checkReceived stops the test if m does not receive the cell, so that only Received counts up, with this body.
func checkReceived(t *testing.T, m impl.Mailbox, direction int, cell []byte, want []byte) impl.Mailbox {
	t.Helper()
	next, body, ok := impl.ReceiveFromMailbox(m, direction, cell)
	if !ok || next != mailbox(m.Key, m.Sent, m.Received+1) || !bytes.Equal(body, want) {
		t.Fatalf("ReceiveFromMailbox(%v, %d, %v) = %v, %v, %v, want the body %v", m, direction, cell, next, body, ok, want)
	}
	return next
}

// rejectReceived stops the test if ReceiveFromMailbox does not return m, an empty slice and false.
func rejectReceived(t *testing.T, m impl.Mailbox, direction int, cell []byte) {
	t.Helper()
	if next, body, ok := impl.ReceiveFromMailbox(m, direction, cell); ok || next != m || len(body) != 0 {
		t.Fatalf("ReceiveFromMailbox(%v, %d, %s) = %v, %v, %v, want the same mailbox, empty, false", m, direction, brief(cell), next, body, ok)
	}
}

// checkFree reports an error if FreeRound does not return the wanted round.
func checkFree(t *testing.T, keys []int, round int, rows int, want int) {
	t.Helper()
	if got := impl.FreeRound(keys, round, rows); got != want {
		t.Errorf("FreeRound(%d keys, %s, %d, %d) = %d, want %d", len(keys), brief(keys), round, rows, got, want)
	}
}

func TestMailboxRow(t *testing.T) {
	cases := []struct {
		key, round, direction, rows int
		want                        int
	}{
		{77, 5, 1, 10, 9}, {77, 5, 0, 10, 2}, {77, 6, 0, 10, 1}, {78, 5, 0, 10, 4},
		{77, 5, 0, 2, 0}, {77, 5, 0, 7, 4}, {77, 5, 1, 64, 9}, {77, 5, 1, 1, 0},
		// the first and the last round
		{77, 0, 0, 64, 9}, {77, impl.MaxValue, 0, 64, 63},
		// keys that are not valid, and other directions
		{1, 0, 0, 64, 34}, {impl.Modulus - 1, 0, 1, 64, 39}, {0, 0, 0, 64, 59}, {impl.Modulus, 0, 0, 64, 59}, {-1, 0, 0, 64, 24},
		{77, 5, 2, 64, 1}, {77, 5, -1, 64, 55}, {math.MinInt, 5, math.MaxInt, 64, 2}, {math.MaxInt, 5, math.MinInt, 63, 7},
	}
	for _, c := range cases {
		if got := impl.MailboxRow(c.key, c.round, c.direction, c.rows); got != c.want {
			t.Errorf("MailboxRow(%d, %d, %d, %d) = %d, want %d", c.key, c.round, c.direction, c.rows, got, c.want)
		}
	}
}

// Every key, direction and round has the row that the chapter states, for every number of rows.
func TestMailboxRowAgainstReference(t *testing.T) {
	for _, key := range slices.Concat(cellKeys, notCellKeys) {
		for _, direction := range someDirections {
			for _, round := range someRounds {
				seed := impl.ChildSeed(impl.KeyedHash(key, []int{79, round, direction}), 0)
				if want := referenceChild(referenceHash([]int{key, 79, round, direction, key}), 0); seed != want {
					t.Fatalf("the seed of the key %d in round %d and direction %d is %d, want %d", key, round, direction, seed, want)
				}
				for _, rows := range someRowCounts {
					if got := impl.MailboxRow(key, round, direction, rows); got != seed%rows {
						t.Fatalf("MailboxRow(%d, %d, %d, %d) = %d, want %d", key, round, direction, rows, got, seed%rows)
					}
				}
			}
		}
	}
	for rows := 1; rows <= impl.MaxRows; rows++ {
		for round := range 10 {
			if got, want := impl.MailboxRow(77, round, 1, rows), referenceRow(77, round, 1, rows); got != want {
				t.Errorf("MailboxRow(77, %d, 1, %d) = %d, want %d", round, rows, got, want)
			}
		}
	}
}

// There is no row in a round that does not exist, or among no rows or too many.
func TestMailboxRowRejects(t *testing.T) {
	for _, key := range []int{77, 1, impl.Modulus - 1, 0, -1, math.MinInt, math.MaxInt} {
		for _, direction := range []int{0, 1, -1, math.MinInt, math.MaxInt} {
			for _, round := range slices.Concat(someRounds, notRounds) {
				for _, rows := range notRowCounts {
					if got := impl.MailboxRow(key, round, direction, rows); got != -1 {
						t.Fatalf("MailboxRow(%d, %d, %d, %d) = %d, want -1", key, round, direction, rows, got)
					}
				}
			}
			for _, round := range notRounds {
				for _, rows := range someRowCounts {
					if got := impl.MailboxRow(key, round, direction, rows); got != -1 {
						t.Fatalf("MailboxRow(%d, %d, %d, %d) = %d, want -1", key, round, direction, rows, got)
					}
				}
			}
		}
	}
}

// A key changes its rows with the round and the direction: over 200 rounds it has most of 64 rows.
func TestMailboxRowChanges(t *testing.T) {
	for _, key := range cellKeys {
		for direction := range 2 {
			seen := map[int]bool{}
			same := 0
			for round := range 200 {
				row := impl.MailboxRow(key, round, direction, 64)
				seen[row] = true
				if row == impl.MailboxRow(key, round, 1-direction, 64) {
					same++
				}
			}
			if len(seen) < 50 || same > 20 {
				t.Errorf("the key %d has %d rows in direction %d, %d times that of the other direction", key, len(seen), direction, same)
			}
		}
	}
}

// zeroDirections lists keys and directions with which the keyed hash is want.
var zeroDirections = []struct{ key, direction, want int }{
	{638775453, 0, 0}, {1897522944, 0, 1}, {1008786788, 0, 2}, {1206189324, 1, 0}, {317453168, 1, 1}, {1576200659, 1, 2},
	{71361582, -1, 0}, {1330109073, -1, 1}, {1651431358, math.MinInt, 0}, {1206189324, math.MaxInt, 0}, {1, 747397617, 0}, {1, 123703665, 1},
	{77, 2041248028, 0}, {77, 1417554076, 1}, {impl.Modulus - 1, 204734374, 0}, {-1, 204734374, 0}, {0, 1549807819, 0}, {0, 926113867, 1},
	{1527511609, 0, impl.Modulus - 1}, {2094925480, 1, impl.Modulus - 1},
}

func TestDirectionKey(t *testing.T) {
	cases := []struct{ key, direction, want int }{
		{77, 0, 2069173414}, {77, 1, 2070173417}, {77, 2, 2071173420}, {77, -1, 2068173411}, {1, 0, 1759374441},
		{impl.Modulus - 1, 0, 1807734564}, {impl.Modulus - 1, 1, 1808734567}, {0, 0, 709812679}, {impl.Modulus, 0, 709812679},
		{-1, 0, 1807734564}, {math.MinInt, math.MaxInt, 759172805}, {math.MaxInt, math.MinInt, 1757374435},
	}
	for _, c := range cases {
		if got := impl.DirectionKey(c.key, c.direction); got != c.want {
			t.Errorf("DirectionKey(%d, %d) = %d, want %d", c.key, c.direction, got, c.want)
		}
	}
	for _, key := range slices.Concat(someKeys, cellKeys, notCellKeys) {
		for _, direction := range someDirections {
			want := referenceDirectionKey(key, direction)
			if got := impl.DirectionKey(key, direction); got != want || got != impl.KeyedHash(key, []int{83, direction}) || !impl.IsValidKey(got) {
				t.Errorf("DirectionKey(%d, %d) = %d, want %d", key, direction, got, want)
			}
		}
		if impl.DirectionKey(key, 0) == impl.DirectionKey(key, 1) {
			t.Errorf("the key %d has the same key in both directions", key)
		}
	}
}

// Where the hash is 0, the key of the direction is 1, and messages are sent and received with it.
func TestDirectionKeyThatWouldBeZero(t *testing.T) {
	for _, c := range zeroDirections {
		if h := impl.KeyedHash(c.key, []int{83, c.direction}); h != c.want {
			t.Fatalf("the hash of the key %d and the direction %d is %d, want %d", c.key, c.direction, h, c.want)
		}
		if got := impl.DirectionKey(c.key, c.direction); got != max(c.want, 1) {
			t.Errorf("DirectionKey(%d, %d) = %d, want %d", c.key, c.direction, got, max(c.want, 1))
		}
		if c.key < 1 {
			continue
		}
		for _, body := range someBodies() {
			cell := referenceCell(max(c.want, 1), 3, plainOf(1, body))
			checkSent(t, mailbox(c.key, 3, 8), c.direction, body, cell)
			checkReceived(t, mailbox(c.key, 8, 3), c.direction, cell, body)
		}
	}
}

func TestIsValidMailbox(t *testing.T) {
	counts := []int{0, 1, 3, impl.MaxValue - 1, impl.MaxValue}
	for _, key := range cellKeys {
		for _, sent := range counts {
			for _, received := range counts {
				if m := mailbox(key, sent, received); !impl.IsValidMailbox(m) {
					t.Errorf("IsValidMailbox(%v) is false", m)
				}
			}
		}
	}
	for _, m := range append(badMailboxes(), impl.Mailbox{}) {
		if impl.IsValidMailbox(m) {
			t.Errorf("IsValidMailbox(%v) is true", m)
		}
	}
}

// badMailboxes lists mailboxes with one field that is not valid, whatever the others are, and with several.
func badMailboxes() []impl.Mailbox {
	var list []impl.Mailbox
	for _, count := range []int{0, 3, impl.MaxValue - 1, impl.MaxValue} {
		for _, key := range notCellKeys {
			list = append(list, mailbox(key, count, 0), mailbox(key, 3, count))
		}
		for _, bad := range notCounters {
			list = append(list, mailbox(77, bad, count), mailbox(1, count, bad), mailbox(impl.Modulus-1, bad, bad))
		}
	}
	return append(list, mailbox(0, -1, -1), mailbox(-1, impl.MaxValue+1, 3), mailbox(impl.Modulus, 3, -1))
}

func TestSendToMailbox(t *testing.T) {
	cases := []struct {
		m         impl.Mailbox
		direction int
		body      string
		cell      []byte
	}{
		{mailbox(77, 0, 0), 0, "hi", []byte{95, 163, 76, 144, 166, 170, 237, 110, 46, 45, 106, 230, 161, 154, 211, 73, 255, 243, 38, 152,
			173, 159, 0, 100}},
		{mailbox(77, 0, 0), 1, "hi", []byte{243, 55, 224, 36, 117, 157, 4, 170, 142, 177, 18, 179, 146, 175, 12, 167, 129, 153, 240, 134,
			242, 31, 249, 77}},
		{mailbox(77, 3, 9), 0, "", []byte{12, 78, 97, 203, 115, 91, 128, 229, 136, 106, 139, 235, 137, 102, 129, 220, 117, 76, 99, 184,
			200, 75, 88, 92}},
		{mailbox(impl.Modulus-1, impl.MaxValue-1, 0), 1, "fourteen bytes", []byte{94, 174, 73, 149, 222, 30, 99, 151, 218, 38, 27, 160,
			250, 56, 108, 189, 70, 95, 182, 77, 91, 249, 107, 84}},
	}
	for _, c := range cases {
		checkSent(t, c.m, c.direction, []byte(c.body), c.cell)
		checkReceived(t, mailbox(c.m.Key, c.m.Received, c.m.Sent), c.direction, c.cell, []byte(c.body))
	}
}

// Every message is the cell that the chapter states, and the friend receives it with the same count.
func TestSendToMailboxAgainstReference(t *testing.T) {
	for _, key := range cellKeys {
		for _, direction := range someDirections {
			for i, counter := range someCounters {
				other := someCounters[len(someCounters)-1-i]
				for _, body := range someBodies() {
					want := textCell(key, direction, counter, body)
					if counter == impl.MaxValue {
						rejectSent(t, mailbox(key, counter, other), direction, body)
						rejectReceived(t, mailbox(key, other, counter), direction, want)
						continue
					}
					sealed, ok := impl.SealCell(impl.DirectionKey(key, direction), counter, plainOf(impl.TextKind, body))
					if !ok || !bytes.Equal(sealed, want) {
						t.Fatalf("the cell of the key %d, the direction %d and the counter %d is %v, want %v", key, direction, counter, sealed, want)
					}
					checkSent(t, mailbox(key, counter, other), direction, body, want)
					checkReceived(t, mailbox(key, other, counter), direction, want, body)
				}
			}
		}
	}
}

// The count of the other direction may be the greatest one, and nothing depends on it.
func TestMailboxCounts(t *testing.T) {
	hello := []byte("hello")
	for _, other := range []int{0, 1, impl.MaxValue - 1, impl.MaxValue} {
		for _, counter := range []int{0, 1, 77, impl.MaxValue - 2, impl.MaxValue - 1} {
			cell := textCell(77, 1, counter, hello)
			next := checkSent(t, mailbox(77, counter, other), 1, hello, cell)
			friend := checkReceived(t, mailbox(77, other, counter), 1, cell, hello)
			if !impl.IsValidMailbox(next) || !impl.IsValidMailbox(friend) {
				t.Errorf("after the message %d the mailboxes are %v and %v, which are not valid", counter, next, friend)
			}
		}
		// the greatest count leaves no counter for another message
		rejectSent(t, mailbox(77, impl.MaxValue, other), 1, hello)
		rejectReceived(t, mailbox(77, other, impl.MaxValue), 1, textCell(77, 1, impl.MaxValue, hello))
	}
	last := checkSent(t, mailbox(77, impl.MaxValue-1, 4), 0, hello, textCell(77, 0, impl.MaxValue-1, hello))
	rejectSent(t, last, 0, hello)
	last = checkReceived(t, mailbox(77, 4, impl.MaxValue-1), 0, textCell(77, 0, impl.MaxValue-1, hello), hello)
	rejectReceived(t, last, 0, textCell(77, 0, impl.MaxValue, hello))
}

func TestSendToMailboxRejects(t *testing.T) {
	for _, direction := range []int{0, 1, -1, math.MinInt, math.MaxInt} {
		for _, m := range append(badMailboxes(), impl.Mailbox{}) {
			for _, body := range [][]byte{nil, []byte("hello"), mixed(14, 3), mixed(15, 3)} {
				rejectSent(t, m, direction, body)
			}
		}
		for _, key := range cellKeys {
			for _, counter := range []int{0, 3, impl.MaxValue - 1, impl.MaxValue} {
				for _, body := range notBodies() {
					rejectSent(t, mailbox(key, counter, 3), direction, body)
				}
			}
		}
	}
}

// A mailbox that is not valid receives nothing, also a cell that has its hashes and its count.
func TestReceiveFromMailboxInvalid(t *testing.T) {
	for _, direction := range []int{0, 1, -1, math.MinInt, math.MaxInt} {
		for _, m := range append(badMailboxes(), impl.Mailbox{}) {
			for _, body := range [][]byte{nil, []byte("hello"), mixed(14, 3)} {
				rejectReceived(t, m, direction, textCell(m.Key, direction, m.Received, body))
				rejectReceived(t, m, direction, textCell(m.Key, direction, impl.Mod(m.Received, impl.Modulus), body))
			}
		}
	}
}

// Cells of other kinds, sealed with the key and the count of the mailbox, are no messages.
func TestReceiveFromMailboxKinds(t *testing.T) {
	for _, body := range someBodies() {
		for counter := range 3 {
			for direction := range 2 {
				m := mailbox(77, 5, counter)
				key := referenceDirectionKey(77, direction)
				checkReceived(t, m, direction, directionCell(77, direction, counter, impl.TextKind, body), body)
				for _, kind := range []int{impl.CoverKind, impl.DialKind, impl.FileKind} {
					rejectReceived(t, m, direction, directionCell(77, direction, counter, kind, body))
				}
				for _, kind := range []byte{4, 5, 128, 129, 255} {
					rejectReceived(t, m, direction, sealBytes(key, counter, slices.Concat([]byte{kind, 1}, mixed(18, 1))))
				}
				rejectReceived(t, m, direction, sealBytes(key, counter, slices.Concat([]byte{1, 15}, mixed(18, 1))))
				// the padding of a message is ignored
				checkReceived(t, m, direction, sealBytes(key, counter, slices.Concat([]byte{1, 14}, mixed(18, 1))), mixed(14, 1))
				rejectReceived(t, m, direction, impl.CoverCell(counter))
			}
		}
	}
}

// What is not a whole cell, or a cell with one bit changed, is not received.
func TestReceiveFromMailboxChanged(t *testing.T) {
	for _, body := range someBodies() {
		m := mailbox(77, 2, 3)
		cell := textCell(77, 1, 3, body)
		for bit := range 8 * impl.CellBytes {
			changed := slices.Clone(cell)
			changed[bit/8] ^= 1 << (bit % 8)
			rejectReceived(t, m, 1, changed)
		}
		rejectReceived(t, m, 1, nil)
		for length := range 60 {
			if length != impl.CellBytes {
				rejectReceived(t, m, 1, extended(cell, length)[:length])
			}
		}
		// what is missing is there in the spare capacity
		for length := range impl.CellBytes {
			rejectReceived(t, m, 1, cell[:length])
		}
		checkReceived(t, m, 1, cell, body)
	}
	for _, cell := range append(notCells(), make([]byte, 24), bytes.Repeat([]byte{255}, 24), mixed(24, 1)) {
		for _, key := range cellKeys {
			rejectReceived(t, mailbox(key, 0, 0), 0, cell)
		}
	}
}

// sendAll sends the bodies one after the other and returns their cells.
func sendAll(t *testing.T, m impl.Mailbox, direction int, bodies [][]byte) [][]byte {
	t.Helper()
	var list [][]byte
	for i, body := range bodies {
		next, cell, ok := impl.SendToMailbox(m, direction, body)
		if !ok || next != mailbox(m.Key, m.Sent+1, m.Received) {
			t.Fatalf("message %d: SendToMailbox(%v, %d, %v) = %v, %v, %v", i, m, direction, body, next, cell, ok)
		}
		m = next
		list = append(list, cell)
	}
	return list
}

// In every state of a mailbox only the next cell of the direction is received: none that has been received,
// none that is ahead of its turn, none of the other direction and none of another key.
func TestMessagesInOrderAndOnce(t *testing.T) {
	bodies := [][]byte{[]byte("a"), []byte("b"), nil, []byte("b"), mixed(14, 9), []byte("b"), {}, []byte("last")}
	for _, key := range cellKeys {
		for _, first := range []int{0, 1, 1000, impl.Modulus - 3, impl.MaxValue - 8} {
			for direction := range 2 {
				sealed := sendAll(t, mailbox(key, first, 3), direction, bodies)
				others := sendAll(t, mailbox(key, first, 3), 1-direction, bodies)
				strange := sendAll(t, mailbox(key^4, first, 3), direction, bodies)
				friend := mailbox(key, 7, first)
				for i, body := range bodies {
					for j := range sealed {
						if j != i {
							rejectReceived(t, friend, direction, sealed[j])
						}
						rejectReceived(t, friend, direction, others[j])
						rejectReceived(t, friend, direction, strange[j])
						rejectReceived(t, friend, 1-direction, sealed[j])
					}
					friend = checkReceived(t, friend, direction, sealed[i], body)
				}
				for _, cell := range slices.Concat(sealed, others) {
					rejectReceived(t, friend, direction, cell)
				}
				if want := mailbox(key, 7, first+len(bodies)); friend != want {
					t.Errorf("after all messages the mailbox is %v, want %v", friend, want)
				}
			}
		}
	}
}

// Both friends send and receive at the same time, in every order of 10 steps, and the directions do not
// disturb each other. A step with the bit 0 is one of the friend with direction 0.
func TestBothDirections(t *testing.T) {
	for order := range 1 << 10 {
		friends := [2]impl.Mailbox{mailbox(77, 0, 0), mailbox(77, 0, 0)}
		var waiting, bodies [2][][]byte
		for step := range 10 {
			who := order >> step & 1
			body := mixed(step, order+step)
			friends[who] = checkSent(t, friends[who], who, body, textCell(77, who, friends[who].Sent, body))
			waiting[who] = append(waiting[who], textCell(77, who, friends[who].Sent-1, body))
			bodies[who] = append(bodies[who], body)
			// after every third step, the friend receives one message, if there is one
			reader := order >> (step + 1) & 1
			if taken := friends[reader].Received; step%3 == 2 && taken < len(waiting[1-reader]) {
				friends[reader] = checkReceived(t, friends[reader], 1-reader, waiting[1-reader][taken], bodies[1-reader][taken])
			}
		}
		for reader := range friends {
			for taken := friends[reader].Received; taken < len(waiting[1-reader]); taken++ {
				friends[reader] = checkReceived(t, friends[reader], 1-reader, waiting[1-reader][taken], bodies[1-reader][taken])
			}
		}
		sent := [2]int{len(bodies[0]), len(bodies[1])}
		if friends != [2]impl.Mailbox{mailbox(77, sent[0], sent[1]), mailbox(77, sent[1], sent[0])} {
			t.Fatalf("after %d and %d messages the mailboxes are %v", sent[0], sent[1], friends)
		}
	}
}

// Messages go through the rows of a table: both friends find the same row in every round, whatever they
// have sent and received, and a message that is written over is sent again with the same count.
func TestMailboxThroughRows(t *testing.T) {
	a, b := mailbox(123456789, 0, 0), mailbox(123456789, 0, 0)
	bodies := [][]byte{[]byte("one"), []byte("two"), []byte("three"), []byte("four")}
	var got [][]byte
	for round := 0; len(got) < len(bodies); round++ {
		if round > 100 {
			t.Fatalf("only %d messages have arrived", len(got))
		}
		next, cell, ok := impl.SendToMailbox(a, 0, bodies[len(got)])
		table, okRow := impl.ReplaceRow(impl.NewDatabase(6), impl.MailboxRow(a.Key, round, 0, 6), cell)
		if !ok || !okRow {
			t.Fatalf("round %d: no cell or no row", round)
		}
		if round%3 == 1 {
			table, _ = impl.XorRow(table, impl.MailboxRow(a.Key, round, 0, 6), impl.CoverCell(round))
		}
		row, _ := impl.ReadRow(table, impl.MailboxRow(b.Key, round, 0, 6))
		friend, body, received := impl.ReceiveFromMailbox(b, 0, row)
		if received != (round%3 != 1) {
			t.Fatalf("round %d: ReceiveFromMailbox(%v, 0, %v) = %v, %v, %v", round, b, row, friend, body, received)
		}
		if received {
			a, got = next, append(got, body)
		}
		b = friend
	}
	if !sameList(got, bodies) || a != mailbox(123456789, 4, 0) || b != mailbox(123456789, 0, 4) {
		t.Errorf("the messages are %s, the mailboxes %v and %v", got, a, b)
	}
}

func TestCountCollisions(t *testing.T) {
	cases := []struct {
		rows []int
		want int
	}{
		{nil, 0}, {[]int{}, 0}, {[]int{0}, 0}, {[]int{-1}, 0}, {[]int{math.MinInt}, 0}, {[]int{0, 0}, 1}, {[]int{0, 1}, 0}, {[]int{1, 2, 1, 1}, 2},
		{[]int{1, 1, 2, 2}, 2}, {[]int{1, 2, 2, 1}, 2}, {[]int{3, 1, 4, 1, 5, 9, 2, 6, 5, 3, 5}, 4}, {[]int{7, 7, 7, 7, 7}, 4}, {[]int{-1, -1, 3}, 1},
		{[]int{1, 2, 3, 4, 5, 6, 7, 8}, 0}, {[]int{8, 7, 6, 5, 4, 3, 2, 8}, 1}, {[]int{0, 64, 128, 256, 1 << 32, 1 << 62}, 0},
		// integers that are no rows are counted like others
		{[]int{math.MinInt, math.MaxInt, math.MinInt, -1, 1, -1}, 2}, {[]int{impl.Modulus, 0, 1, impl.Modulus + 1}, 0},
		{[]int{1, 1<<32 + 1, 257, -255}, 0},
	}
	for _, c := range cases {
		if got := impl.CountCollisions(c.rows); got != c.want || referenceCollisions(c.rows) != c.want {
			t.Errorf("CountCollisions(%v) = %d, want %d", c.rows, got, c.want)
		}
	}
	for length := range 200 {
		for _, rows := range []int{1, 2, 10, 64, 1000} {
			var list []int
			for i := range length {
				list = append(list, (i*i+length)%rows-5)
			}
			if got, want := impl.CountCollisions(list), referenceCollisions(list); got != want {
				t.Errorf("CountCollisions(%v) = %d, want %d", list, got, want)
			}
		}
	}
	if got := impl.CountCollisions(make([]int, 100000)); got != 99999 {
		t.Errorf("CountCollisions of 100000 zeros = %d", got)
	}
}

func TestFreeRound(t *testing.T) {
	cases := []struct {
		keys        []int
		round, rows int
		want        int
	}{
		{[]int{1, 2}, 0, 2, 0}, {[]int{1, 4}, 0, 2, 1}, {[]int{5, 7}, 0, 2, 10}, {[]int{19, 77}, 0, 2, 18},
		// the last of the 20 rounds, and the one behind it
		{[]int{24, 83}, 0, 2, 19}, {[]int{3, 237}, 0, 2, -1}, {[]int{3, 237}, 1, 2, 20}, {[]int{53, 199}, 0, 3, 19}, {[]int{6, 503}, 0, 3, -1},
		{[]int{6, 503}, 1, 3, 20}, {[]int{48, 341}, 100, 8, 119}, {[]int{161, 454}, 100, 8, -1}, {[]int{161, 454}, 101, 8, 120},
		{[]int{46, 105}, 0, 12, -1}, {[]int{46, 105}, 1, 12, 20}, {[]int{1, 45}, 0, 64, 1}, {[]int{1, 16}, 100, 64, 101},
		// the last round to begin with, for which the last round is not searched
		{[]int{1, 6}, impl.MaxValue - 20, 2, impl.MaxValue - 19}, {[]int{11, 305}, impl.MaxValue - 20, 2, impl.MaxValue - 1},
		{[]int{7, 504}, impl.MaxValue - 20, 3, -1}, {[]int{7, 504}, impl.MaxValue - 19, 3, -1}, {[]int{1, 2}, impl.MaxValue - 19, 2, -1},
		// one key and no key are alone in every round
		{[]int{5}, 7, 1, 7}, {[]int{5}, 0, 64, 0}, {[]int{5}, impl.MaxValue - 20, 1, impl.MaxValue - 20}, {nil, 7, 1, 7}, {[]int{}, 7, 1, 7},
		{nil, 0, 64, 0}, {[]int{}, impl.MaxValue - 20, 64, impl.MaxValue - 20},
		// two keys and one row
		{[]int{5, 6}, 0, 1, -1}, {[]int{5, 6, 7}, 7, 1, -1},
		// the same key twice, and keys with the same hashes
		{[]int{5, 5}, 0, 64, -1}, {[]int{5, 6, 5}, 7, 64, -1}, {[]int{5, 5 + impl.Modulus}, 0, 64, -1}, {[]int{0, impl.Modulus}, 0, 64, -1},
		{[]int{-1, impl.Modulus - 1}, 7, 64, -1},
	}
	for _, c := range cases {
		checkFree(t, c.keys, c.round, c.rows, c.want)
		slices.Reverse(c.keys)
		checkFree(t, c.keys, c.round, c.rows, c.want)
	}
}

// someKeyLists lists lists of keys, of which some are not valid and some occur twice.
func someKeyLists() [][]int {
	list := [][]int{nil, {}, {77, 77}, {77, 78, 77}, {0, 1}, {0, impl.Modulus}, {math.MinInt, math.MaxInt}, {-1, 0, 1}, {24, 83}, {3, 237},
		{77, 78 - impl.Modulus, 3 * impl.Modulus}, cellKeys, notCellKeys}
	for _, key := range slices.Concat(cellKeys, notCellKeys) {
		list = append(list, []int{key})
	}
	for count := 2; count <= 12; count++ {
		var keys []int
		for i := range count {
			keys = append(keys, 100*count+7*i*i+1)
		}
		list = append(list, keys)
	}
	return list
}

// The free round is the first of 20 in which the rows of all keys differ; none before it is free.
func TestFreeRoundAgainstReference(t *testing.T) {
	found := map[int]int{}
	for _, keys := range someKeyLists() {
		for _, rows := range someRowCounts {
			for _, first := range []int{0, 33, impl.Modulus - 10, impl.MaxValue - 60} {
				var free []bool
				for i := range 61 {
					free = append(free, referenceCollisions(rowsOfKeys(keys, first+i, rows)) == 0)
				}
				for i := range 41 {
					want := -1
					if place := slices.Index(free[i:i+20], true); place >= 0 {
						want = first + i + place
						found[place]++
					}
					checkFree(t, keys, first+i, rows, want)
				}
			}
		}
	}
	for place := range 20 {
		if found[place] == 0 {
			t.Errorf("no round is free %d rounds behind the first one", place)
		}
	}
}

// The rows in a free round are those of MailboxRow in direction 0, and not those in direction 1.
func TestFreeRoundIsFree(t *testing.T) {
	other := 0
	for _, keys := range [][]int{{77, 78}, {77, 78, 79}, {5, 1000, 123456789, 2000000000}, {1, 2, 3, 4, 5, 6}} {
		for round := range 100 {
			for _, rows := range []int{6, 12, 64} {
				got := impl.FreeRound(keys, round, rows)
				for tried := round; tried < round+20 && (got < 0 || tried <= got); tried++ {
					var list, back []int
					for _, key := range keys {
						list = append(list, impl.MailboxRow(key, tried, 0, rows))
						back = append(back, impl.MailboxRow(key, tried, 1, rows))
					}
					if (impl.CountCollisions(list) == 0) != (tried == got) {
						t.Errorf("FreeRound(%v, %d, %d) = %d, but the rows in round %d are %v", keys, round, rows, got, tried, list)
					}
					if (impl.CountCollisions(back) == 0) != (tried == got) {
						other++
					}
				}
			}
		}
	}
	if other == 0 {
		t.Error("no free round tells the directions apart")
	}
}

// As many keys as rows may have a free round, one more may not.
func TestFreeRoundFillsAllRows(t *testing.T) {
	for _, rows := range []int{1, 2, 3, 10, 63, 64} {
		for _, round := range []int{0, 77, impl.MaxValue - 20} {
			keys := make([]int, rows)
			for key := 1; slices.Contains(keys, 0); key++ {
				keys[referenceRow(key, round, 0, rows)] = key
			}
			checkFree(t, keys, round, rows, round)
			for _, key := range []int{1000000, 0, -1, keys[0]} {
				checkFree(t, append(slices.Clone(keys), key), round, rows, -1)
			}
			if rows > 1 {
				checkFree(t, keys[1:], round, rows, round)
				checkFree(t, keys, round, rows-1, -1)
			}
			if rows > 10 && round > 0 {
				checkFree(t, keys, round-20, rows, -1)
				checkFree(t, keys, round-19, rows, round)
			}
		}
	}
	var many []int
	for key := range 1000 {
		many = append(many, key)
	}
	for _, rows := range someRowCounts {
		for count := rows + 1; count < rows+5; count++ {
			checkFree(t, many[:count], 7, rows, -1)
		}
		checkFree(t, many, 7, rows, -1)
		checkFree(t, make([]int, 1000), 7, rows, -1)
	}
}

func TestFreeRoundRejects(t *testing.T) {
	lists := [][]int{nil, {}, {77}, {0}, {77, 78}, {77, 77}, cellKeys}
	for _, keys := range lists {
		for _, round := range slices.Concat(someRounds, notRounds) {
			for _, rows := range notRowCounts {
				checkFree(t, keys, round, rows, -1)
			}
		}
		for _, round := range append([]int{impl.MaxValue - 19, impl.MaxValue - 18, impl.MaxValue - 1, impl.MaxValue}, notRounds...) {
			for _, rows := range someRowCounts {
				checkFree(t, keys, round, rows, -1)
			}
		}
	}
}

func TestMailboxCopies(t *testing.T) {
	for _, content := range [][]byte{nil, []byte("hello"), mixed(13, 3), mixed(14, 3), mixed(15, 3)} {
		for _, m := range []impl.Mailbox{mailbox(77, 3, 4), mailbox(77, impl.MaxValue, 0), {}} {
			name := fmt.Sprintf("SendToMailbox(%v, 0, %v)", m, content)
			body, unchanged := roomy(content)
			_, cell, ok := impl.SendToMailbox(m, 0, body)
			if ok != (m.Sent == 3 && len(content) <= 14) {
				t.Errorf("%s is %v", name, ok)
			}
			checkFresh(t, name, cell, unchanged)
			checkAgain(t, name, func() []byte { _, cell, _ := impl.SendToMailbox(m, 0, body); return cell })
		}
	}
	good := textCell(77, 0, 4, mixed(14, 3))
	for _, content := range [][]byte{good, textCell(77, 0, 4, nil), textCell(77, 0, 4, []byte("hello")), textCell(77, 0, 5, []byte("hello")),
		directionCell(77, 0, 4, 3, []byte("hello")), good[:23], extended(good, 25), {}, nil} {
		for _, m := range []impl.Mailbox{mailbox(77, 3, 4), mailbox(77, -1, 4), {}} {
			name := fmt.Sprintf("ReceiveFromMailbox(%v, 0, %v)", m, content)
			cell, unchanged := roomy(content)
			_, body, _ := impl.ReceiveFromMailbox(m, 0, cell)
			checkFresh(t, name, body, unchanged)
			checkAgain(t, name, func() []byte { _, body, _ := impl.ReceiveFromMailbox(m, 0, cell); return body })
		}
	}
}

func TestMailboxListsUnchanged(t *testing.T) {
	for _, content := range [][]int{nil, {7}, {3, 1, 4, 1, 5, 9, 2, 6, 5}, {24, 83}, {3, 237}, cellKeys, notCellKeys, make([]int, 100)} {
		list, unchanged := roomy(content)
		if got := impl.CountCollisions(list); got != referenceCollisions(content) {
			t.Errorf("CountCollisions(%v) depends on the spare capacity: %d", content, got)
		}
		want := impl.FreeRound(slices.Clone(content), 0, 64)
		if got := impl.FreeRound(list, 0, 64); got != want {
			t.Errorf("FreeRound(%v, 0, 64) depends on the spare capacity: %d, want %d", content, got, want)
		}
		impl.FreeRound(list, 0, 2)
		impl.FreeRound(list, -1, 65)
		if !unchanged() {
			t.Errorf("CountCollisions or FreeRound changes %v or the spare capacity behind it", content)
		}
	}
}
