package tests

import (
	"bytes"
	"math"
	"slices"
	"testing"

	"loop.example/g00516/impl"
)

// cells returns this number of cells, all of them different; another start gives other cells.
func cells(count int, start int) [][]byte {
	var list [][]byte
	for i := range count {
		list = append(list, mixed(24, start+11*i))
	}
	return list
}

// notCells lists byte strings of another size than a cell, some of them with the low bits of that size.
func notCells() [][]byte {
	return [][]byte{nil, {}, {7}, mixed(12, 1), mixed(23, 2), make([]byte, 23), mixed(25, 3), make([]byte, 25), mixed(26, 4),
		mixed(48, 5), mixed(256, 6), mixed(280, 7), mixed(400, 8)}
}

// replaced returns the rows with another one at this place.
func replaced(rows [][]byte, index int, row []byte) [][]byte {
	list := slices.Clone(rows)
	list[index] = row
	return list
}

// goodRows lists the rows of valid databases, from none to MaxRows, with equal ones and with zero cells.
func goodRows() [][][]byte {
	lists := [][][]byte{nil, {}, {make([]byte, 24)}, {make([]byte, 24), mixed(24, 9)}, slices.Repeat(cells(1, 7), 3),
		slices.Repeat([][]byte{make([]byte, 24)}, 64)}
	for _, count := range []int{1, 2, 3, 63, 64} {
		lists = append(lists, cells(count, count))
	}
	return lists
}

// spoiledRows lists rows of which one, at the first place, in the middle or at the last one, has another size.
func spoiledRows() [][][]byte {
	var lists [][][]byte
	for _, count := range []int{1, 2, 3, 64} {
		for _, place := range slices.Compact([]int{0, count / 2, count - 1}) {
			for _, row := range notCells() {
				lists = append(lists, replaced(cells(count, count), place, row))
			}
		}
	}
	// some that have as many bytes as cells would have, and some that all have one size
	return append(lists, [][]byte{mixed(23, 1), mixed(25, 2)}, [][]byte{mixed(48, 1), nil}, [][]byte{nil, {}},
		[][]byte{mixed(25, 1), mixed(25, 2), mixed(25, 3)}, [][]byte{mixed(23, 1), mixed(23, 2)}, make([][]byte, 24))
}

// tooManyRows lists more than MaxRows rows, all of them cells, or one of them of another size.
func tooManyRows() [][][]byte {
	lists := [][][]byte{replaced(cells(65, 2), 64, nil), replaced(cells(66, 3), 0, mixed(25, 1)), make([][]byte, 65)}
	for _, count := range []int{65, 66, 128, 255, 256, 257, 320} {
		lists = append(lists, cells(count, count))
	}
	return lists
}

// allRows lists the rows of databases of every kind.
func allRows() [][][]byte {
	return slices.Concat(goodRows(), spoiledRows(), tooManyRows())
}

// someIndexes lists the rows about both ends and about MaxRows, or all of them where there are few.
func someIndexes(count int) []int {
	var list []int
	for i := range count {
		if i < 4 || count-i < 3 || i > 62 && i < 67 {
			list = append(list, i)
		}
	}
	return list
}

// database returns the database with these rows.
func database(rows ...[]byte) impl.Database {
	return impl.Database{Rows: rows}
}

// rowChange is a function that changes one row of a database by a cell.
type rowChange func(d impl.Database, index int, cell []byte) (impl.Database, bool)

// checkChange reports an error if change does not put the wanted row at this place, or another row does not stay.
func checkChange(t *testing.T, name string, change rowChange, rows [][]byte, index int, cell []byte, want []byte) {
	t.Helper()
	got, ok := change(database(rows...), index, cell)
	if !ok || !sameList(got.Rows, replaced(rows, index, want)) {
		t.Errorf("%s(%v, %d, %v) = %v, %v, want %v in that row", name, rows, index, cell, got, ok, want)
	}
}

// rejectChange reports an error if change is not refused, or what comes back is no copy of the rows.
func rejectChange(t *testing.T, name string, change rowChange, rows [][]byte, index int, cell []byte) {
	t.Helper()
	got, ok := change(database(rows...), index, cell)
	if ok || !sameList(got.Rows, rows) {
		t.Errorf("%s(%v, %d, %v) = %v, %v, want a copy unchanged", name, rows, index, cell, got, ok)
	}
}

// rejectSum reports an error if the databases are combined, or what comes back is no copy of the first one.
func rejectSum(t *testing.T, a [][]byte, b [][]byte) {
	t.Helper()
	got, ok := impl.XorDatabases(database(a...), database(b...))
	if ok || !sameList(got.Rows, a) {
		t.Errorf("XorDatabases of %d and %d rows = %v, %v, want a copy of %v", len(a), len(b), got, ok, a)
	}
}

// checkEqual reports an error if EqualDatabases does not say, in both directions, whether the rows are equal.
func checkEqual(t *testing.T, a [][]byte, b [][]byte, want bool) {
	t.Helper()
	first, second := database(a...), database(b...)
	if impl.EqualDatabases(first, second) != want || impl.EqualDatabases(second, first) != want {
		t.Errorf("EqualDatabases(%v, %v) is not %v in both directions", a, b, want)
	}
}

// referenceDigest is the digest of a database with these rows as chapter 8 states it.
func referenceDigest(rows [][]byte) int {
	values := []int{len(rows)}
	for _, row := range rows {
		values = append(values, len(row))
		for _, c := range row {
			values = append(values, int(c))
		}
	}
	return referenceHash(values)
}

func TestCellBytes(t *testing.T) {
	if impl.CellBytes != 24 {
		t.Errorf("CellBytes is %d", impl.CellBytes)
	}
}

func TestNewDatabase(t *testing.T) {
	for rows := 0; rows <= impl.MaxRows; rows++ {
		d := impl.NewDatabase(rows)
		if want := slices.Repeat([][]byte{make([]byte, 24)}, rows); !sameList(d.Rows, want) {
			t.Errorf("NewDatabase(%d) = %v", rows, d)
		}
		if !impl.IsValidDatabase(d) {
			t.Errorf("NewDatabase(%d) is not valid", rows)
		}
	}
	for _, rows := range notRows {
		if d := impl.NewDatabase(rows); len(d.Rows) != 0 {
			t.Fatalf("NewDatabase(%d) has %d rows", rows, len(d.Rows))
		}
	}
}

func TestIsValidDatabase(t *testing.T) {
	if !impl.IsValidDatabase(impl.Database{}) {
		t.Error("the zero value of Database is not valid")
	}
	for _, rows := range goodRows() {
		if !impl.IsValidDatabase(database(rows...)) {
			t.Errorf("the database of %d rows is not valid: %v", len(rows), rows)
		}
	}
	for _, rows := range slices.Concat(spoiledRows(), tooManyRows()) {
		if impl.IsValidDatabase(database(rows...)) {
			t.Errorf("the database of %d rows is valid: %v", len(rows), rows)
		}
	}
	for _, count := range []int{1000, 1 << 16, 1<<16 + 3} {
		if impl.IsValidDatabase(database(slices.Repeat(cells(1, 1), count)...)) {
			t.Errorf("a database of %d rows is valid", count)
		}
	}
	// one row of another size at every place
	for count := 1; count <= impl.MaxRows; count++ {
		for place := range count {
			for _, length := range []int{0, 1, 23, 25, 280, 1<<16 + 24} {
				if impl.IsValidDatabase(database(replaced(cells(count, 1), place, make([]byte, length))...)) {
					t.Errorf("the database is valid with %d bytes in row %d of %d", length, place, count)
				}
			}
		}
	}
}

// Every row is read as it is, also in a database that is not valid.
func TestReadRow(t *testing.T) {
	for _, rows := range append(allRows(), cells(1000, 1)) {
		d := database(rows...)
		for i, row := range rows {
			if got, ok := impl.ReadRow(d, i); !ok || !bytes.Equal(got, row) {
				t.Errorf("ReadRow of row %d of %d = %v, %v, want %v", i, len(rows), got, ok, row)
			}
		}
		for _, index := range badOffsets(len(rows)) {
			if got, ok := impl.ReadRow(d, index); ok || len(got) != 0 {
				t.Errorf("ReadRow of row %d of %d = %v, %v, want none", index, len(rows), got, ok)
			}
		}
	}
	for _, index := range []int{-1, 0, 1, math.MaxInt, math.MinInt} {
		if got, ok := impl.ReadRow(impl.Database{}, index); ok || len(got) != 0 {
			t.Errorf("ReadRow of row %d of the zero value = %v, %v", index, got, ok)
		}
	}
}

// A replaced row is read, and the others are read as before, whatever size they have.
func TestReplacedRowIsRead(t *testing.T) {
	for _, rows := range allRows() {
		d := database(rows...)
		for _, index := range someIndexes(len(rows)) {
			for _, cell := range [][]byte{mixed(24, 200), make([]byte, 24), bytes.Repeat([]byte{255}, 24)} {
				changed, ok := impl.ReplaceRow(d, index, cell)
				if !ok || len(changed.Rows) != len(rows) {
					t.Fatalf("ReplaceRow of row %d of %d = %v, %v", index, len(rows), changed, ok)
				}
				for i, row := range rows {
					want := row
					if i == index {
						want = cell
					}
					if got, ok := impl.ReadRow(changed, i); !ok || !bytes.Equal(got, want) {
						t.Errorf("row %d of %d is %v, %v after row %d was replaced, want %v", i, len(rows), got, ok, index, want)
					}
				}
			}
		}
	}
}

// The row that is replaced may have any size, and the one that was replaced may come back.
func TestReplaceRow(t *testing.T) {
	for _, rows := range allRows() {
		for _, index := range someIndexes(len(rows)) {
			cell := mixed(24, 201)
			checkChange(t, "ReplaceRow", impl.ReplaceRow, rows, index, cell, cell)
			changed := replaced(rows, index, cell)
			checkChange(t, "ReplaceRow", impl.ReplaceRow, changed, index, cell, cell)
			if row := rows[index]; len(row) == 24 {
				checkChange(t, "ReplaceRow", impl.ReplaceRow, changed, index, row, row)
			} else {
				rejectChange(t, "ReplaceRow", impl.ReplaceRow, changed, index, row)
			}
		}
	}
	d := impl.NewDatabase(3)
	for i, cell := range cells(3, 50) {
		d, _ = impl.ReplaceRow(d, i, cell)
	}
	if !sameList(d.Rows, cells(3, 50)) {
		t.Errorf("a database all of whose rows were replaced is %v", d)
	}
}

// A database is valid again when its only row of another size is replaced.
func TestReplaceRowRepairs(t *testing.T) {
	for _, row := range notCells() {
		for place := range 3 {
			d := database(replaced(cells(3, 1), place, row)...)
			for index := range 3 {
				changed, ok := impl.ReplaceRow(d, index, mixed(24, 90))
				if !ok || impl.IsValidDatabase(changed) != (index == place) {
					t.Errorf("row %d replaced beside %d bytes in row %d: %v, %v", index, len(row), place, changed, ok)
				}
			}
		}
	}
}

func TestXorRow(t *testing.T) {
	for _, rows := range allRows() {
		for _, index := range someIndexes(len(rows)) {
			for _, cell := range [][]byte{mixed(24, 200), make([]byte, 24), bytes.Repeat([]byte{255}, 24)} {
				row := rows[index]
				if len(row) != 24 {
					rejectChange(t, "XorRow", impl.XorRow, rows, index, cell)
					continue
				}
				sum := referenceXor(row, cell)
				checkChange(t, "XorRow", impl.XorRow, rows, index, cell, sum)
				// combined twice, the row is as before
				checkChange(t, "XorRow", impl.XorRow, replaced(rows, index, sum), index, cell, row)
				checkChange(t, "XorRow", impl.XorRow, rows, index, row, make([]byte, 24))
			}
		}
	}
	checkChange(t, "XorRow", impl.XorRow, impl.NewDatabase(64).Rows, 63, mixed(24, 8), mixed(24, 8))
}

// There is no row at these indexes, whatever the cell is.
func TestRowChangesOutOfRange(t *testing.T) {
	for _, rows := range allRows() {
		for _, index := range badOffsets(len(rows)) {
			for _, cell := range append(notCells(), mixed(24, 200), make([]byte, 24)) {
				rejectChange(t, "ReplaceRow", impl.ReplaceRow, rows, index, cell)
				rejectChange(t, "XorRow", impl.XorRow, rows, index, cell)
			}
		}
	}
}

// A cell of another size is refused, also where the row has that size too.
func TestRowChangesByOtherSizes(t *testing.T) {
	others := append(notCells(), make([]byte, 24+1<<16))
	for _, rows := range allRows() {
		for _, index := range someIndexes(len(rows)) {
			for _, cell := range others {
				rejectChange(t, "ReplaceRow", impl.ReplaceRow, rows, index, cell)
				rejectChange(t, "XorRow", impl.XorRow, rows, index, cell)
			}
			if row := rows[index]; len(row) != 24 {
				rejectChange(t, "XorRow", impl.XorRow, rows, index, row)
			}
		}
	}
}

func TestXorDatabases(t *testing.T) {
	for _, a := range goodRows() {
		for _, b := range goodRows() {
			if len(a) != len(b) {
				rejectSum(t, a, b)
				continue
			}
			var want [][]byte
			for i, row := range a {
				want = append(want, referenceXor(row, b[i]))
			}
			for _, pair := range [][2][][]byte{{a, b}, {b, a}} {
				got, ok := impl.XorDatabases(database(pair[0]...), database(pair[1]...))
				if !ok || !sameList(got.Rows, want) {
					t.Errorf("XorDatabases(%v, %v) = %v, %v, want %v", pair[0], pair[1], got, ok, want)
				}
			}
			back, ok := impl.XorDatabases(database(want...), database(b...))
			if !ok || !sameList(back.Rows, a) {
				t.Errorf("%v with %v added twice is %v, %v", a, b, back, ok)
			}
		}
	}
	if got, ok := impl.XorDatabases(impl.Database{}, impl.Database{}); !ok || len(got.Rows) != 0 {
		t.Errorf("XorDatabases of the zero values = %v, %v", got, ok)
	}
}

// A database combined with itself has zero cells, and one combined with zero cells stays.
func TestXorDatabasesWithItselfAndZero(t *testing.T) {
	for count := 0; count <= impl.MaxRows; count++ {
		d, zero := database(cells(count, 3)...), impl.NewDatabase(count)
		if got, ok := impl.XorDatabases(d, d); !ok || !impl.EqualDatabases(got, zero) {
			t.Errorf("a database of %d rows combined with itself is %v, %v", count, got, ok)
		}
		if got, ok := impl.XorDatabases(d, zero); !ok || !impl.EqualDatabases(got, d) {
			t.Errorf("a database of %d rows combined with a zero one is %v, %v", count, got, ok)
		}
		if got, ok := impl.XorDatabases(zero, d); !ok || !impl.EqualDatabases(got, d) {
			t.Errorf("a zero database combined with one of %d rows is %v, %v", count, got, ok)
		}
	}
}

func TestXorDatabasesOfDifferentNumbers(t *testing.T) {
	for first := 0; first <= impl.MaxRows; first++ {
		for second := 0; second <= impl.MaxRows; second++ {
			if first != second {
				rejectSum(t, cells(first, 1), cells(second, 2))
			}
		}
	}
}

// One of them invalid, both of them, or both in the same way, with equal and with different numbers of rows.
func TestXorDatabasesOfInvalidOnes(t *testing.T) {
	for _, bad := range slices.Concat(spoiledRows(), tooManyRows()) {
		good := cells(len(bad), 77)
		rejectSum(t, bad, bad)
		rejectSum(t, bad, good)
		rejectSum(t, good, bad)
		for _, other := range [][][]byte{nil, cells(1, 5), cells(2, 5), cells(64, 5), cells(65, 5), {mixed(25, 1)}, {nil}} {
			rejectSum(t, bad, other)
			rejectSum(t, other, bad)
		}
	}
	// too long by as much as the other one is too short
	rejectSum(t, [][]byte{mixed(23, 1)}, [][]byte{mixed(25, 2)})
	rejectSum(t, [][]byte{mixed(23, 1), mixed(25, 2)}, [][]byte{mixed(25, 3), mixed(23, 4)})
}

func TestDatabaseDigest(t *testing.T) {
	zero := make([]byte, 24)
	cases := []struct {
		rows [][]byte
		want int
	}{
		{nil, 11000046},
		{[][]byte{}, 11000046},
		{[][]byte{zero}, 1936623598},
		{[][]byte{zero, zero}, 615164176},
		{slices.Repeat([][]byte{zero}, 64), 1894285003},
		{[][]byte{mixed(24, 1), mixed(24, 2)}, 2077668741},
		{[][]byte{mixed(24, 2), mixed(24, 1)}, 575888413},
		// rows of another size, and too many
		{[][]byte{nil}, 668760220},
		{[][]byte{{}}, 668760220},
		{[][]byte{nil, {}}, 737487028},
		{[][]byte{{0}}, 1459866524},
		{[][]byte{{7}}, 1459866531},
		{[][]byte{bytes.Repeat([]byte{255}, 25)}, 2106588524},
		{slices.Repeat([][]byte{zero}, 65), 1749603164},
	}
	for _, c := range cases {
		if got := impl.DatabaseDigest(database(c.rows...)); got != c.want {
			t.Errorf("DatabaseDigest of %v = %d, want %d", c.rows, got, c.want)
		}
	}
	for _, rows := range append(allRows(), cells(1000, 1)) {
		if got, want := impl.DatabaseDigest(database(rows...)), referenceDigest(rows); got != want {
			t.Errorf("DatabaseDigest of %d rows = %d, want %d: %v", len(rows), got, want, rows)
		}
	}
}

// A digest changes with every byte of every row, and comes back with it.
func TestDatabaseDigestOfChanges(t *testing.T) {
	for _, count := range []int{1, 3, 64} {
		d := database(cells(count, 4)...)
		before := impl.DatabaseDigest(d)
		for row := range count {
			for i := range 24 {
				cell := make([]byte, 24)
				cell[i] = byte(1 + (row+i)%255)
				changed, _ := impl.XorRow(d, row, cell)
				if impl.DatabaseDigest(changed) == before || impl.EqualDatabases(changed, d) {
					t.Errorf("byte %d of row %d of %d changes nothing", i, row, count)
				}
				back, _ := impl.XorRow(changed, row, cell)
				if impl.DatabaseDigest(back) != before || !impl.EqualDatabases(back, d) {
					t.Errorf("byte %d of row %d of %d does not come back", i, row, count)
				}
			}
		}
	}
}

// Databases are equal exactly if their rows are, also those that are not valid.
func TestEqualDatabases(t *testing.T) {
	lists := slices.Concat(goodRows(), spoiledRows(), tooManyRows()[:4])
	for _, a := range lists {
		for _, b := range lists {
			checkEqual(t, a, b, sameList(a, b))
		}
	}
	for _, rows := range allRows() {
		var apart [][]byte
		for _, row := range rows {
			apart = append(apart, bytes.Clone(row))
		}
		checkEqual(t, rows, apart, true)
		checkEqual(t, rows, append(apart, nil), false)
		checkEqual(t, rows, append(apart, make([]byte, 24)), false)
	}
}

func TestEqualDatabasesWithoutRows(t *testing.T) {
	none := []impl.Database{{}, {Rows: nil}, {Rows: [][]byte{}}, impl.NewDatabase(0), impl.NewDatabase(-1), impl.NewDatabase(65)}
	for _, a := range none {
		for _, b := range none {
			if !impl.EqualDatabases(a, b) {
				t.Errorf("EqualDatabases(%v, %v) is false", a, b)
			}
		}
		for _, rows := range [][][]byte{{nil}, {{}}, {{0}}, cells(1, 1), impl.NewDatabase(1).Rows} {
			checkEqual(t, a.Rows, rows, false)
		}
	}
	// a nil row and an empty one are equal, but a row of zero bytes is not
	checkEqual(t, [][]byte{nil}, [][]byte{{}}, true)
	checkEqual(t, [][]byte{nil, mixed(24, 1), {}}, [][]byte{{}, mixed(24, 1), nil}, true)
	checkEqual(t, [][]byte{nil}, [][]byte{make([]byte, 24)}, false)
	checkEqual(t, [][]byte{{}}, [][]byte{{0}}, false)
}

// One byte of one row makes the difference, or the length of one row, of which the other is the beginning.
func TestEqualDatabasesOfOneDifference(t *testing.T) {
	for _, length := range []int{0, 1, 23, 24, 25, 47, 48, 49, 280} {
		for _, count := range []int{1, 2, 64, 65} {
			for place := range count {
				row := mixed(length, 30)
				a := replaced(cells(count, 6), place, row)
				checkEqual(t, a, replaced(a, place, bytes.Clone(row)), true)
				for i := range row {
					other := bytes.Clone(row)
					other[i] ^= byte(1 << (i % 8))
					checkEqual(t, a, replaced(a, place, other), false)
				}
				for _, more := range []int{1, 2, 24, 256} {
					checkEqual(t, a, replaced(a, place, append(bytes.Clone(row), make([]byte, more)...)), false)
					checkEqual(t, a, replaced(a, place, mixed(length+more, 30)), false)
				}
			}
		}
	}
	// the same bytes in other rows
	checkEqual(t, cells(2, 1), [][]byte{mixed(24, 12), mixed(24, 1)}, false)
	checkEqual(t, [][]byte{mixed(48, 1)}, [][]byte{mixed(48, 1)[:24], mixed(48, 1)[24:]}, false)
	checkEqual(t, [][]byte{mixed(48, 1)[:23], mixed(48, 1)[23:]}, [][]byte{mixed(48, 1)[:25], mixed(48, 1)[25:]}, false)
	checkEqual(t, [][]byte{nil, mixed(24, 1)}, [][]byte{mixed(24, 1), nil}, false)
}

// rowsToCopy lists rows of every kind, but fewer than allRows, for tests that take more time for each.
func rowsToCopy() [][][]byte {
	return slices.Concat(goodRows()[:5], [][][]byte{cells(3, 3), cells(64, 4), cells(65, 5), {nil}, {{}}, {nil, {}, {1, 2}},
		{mixed(23, 1), mixed(24, 2), mixed(25, 3)}, {mixed(24, 2), mixed(25, 3)}, {mixed(280, 3)}})
}

func TestReadRowCopies(t *testing.T) {
	for _, content := range rowsToCopy() {
		for _, index := range append(badOffsets(len(content)), someIndexes(len(content))...) {
			rows, unchanged := roomyList(content)
			got, ok := impl.ReadRow(database(rows...), index)
			want, wantOk := impl.ReadRow(database(content...), index)
			if ok != wantOk || !bytes.Equal(got, want) {
				t.Errorf("ReadRow of row %d of %d with spare capacity = %v, %v", index, len(content), got, ok)
			}
			checkFresh(t, "ReadRow", got, unchanged)
		}
	}
}

// What is changed and what comes back after a refusal is a copy: the places and the bytes of every row.
func TestRowChangesCopy(t *testing.T) {
	changes := map[string]rowChange{"ReplaceRow": impl.ReplaceRow, "XorRow": impl.XorRow}
	for name, change := range changes {
		for _, content := range rowsToCopy() {
			for _, index := range append([]int{-1, len(content), math.MinInt, math.MaxInt}, someIndexes(len(content))...) {
				for _, text := range [][]byte{mixed(24, 50), {}, mixed(23, 51), mixed(25, 52)} {
					rows, unchangedRows := roomyList(content)
					cell, unchangedCell := roomy(text)
					got, ok := change(impl.Database{Rows: rows}, index, cell)
					want, wantOk := change(database(content...), index, text)
					if ok != wantOk || !sameList(got.Rows, want.Rows) {
						t.Errorf("%s of row %d of %d with spare capacity = %v, %v", name, index, len(content), got, ok)
					}
					checkFreshList(t, name, got.Rows, func() bool { return unchangedRows() && unchangedCell() })
				}
			}
		}
	}
}

func TestXorDatabasesCopies(t *testing.T) {
	for _, first := range rowsToCopy() {
		for _, second := range append(rowsToCopy(), cells(len(first), 60)) {
			a, unchangedA := roomyList(first)
			b, unchangedB := roomyList(second)
			got, ok := impl.XorDatabases(impl.Database{Rows: a}, impl.Database{Rows: b})
			want, wantOk := impl.XorDatabases(database(first...), database(second...))
			if ok != wantOk || !sameList(got.Rows, want.Rows) {
				t.Errorf("XorDatabases of %d and %d rows with spare capacity = %v, %v", len(first), len(second), got, ok)
			}
			checkFreshList(t, "XorDatabases", got.Rows, func() bool { return unchangedA() && unchangedB() })
		}
	}
}

// Rows and bytes in the spare capacity of an argument are not part of it.
func TestDatabasesLeaveArguments(t *testing.T) {
	for _, content := range rowsToCopy() {
		rows, unchanged := roomyList(content)
		d, apart := impl.Database{Rows: rows}, database(content...)
		if impl.IsValidDatabase(d) != impl.IsValidDatabase(apart) || impl.DatabaseDigest(d) != impl.DatabaseDigest(apart) {
			t.Errorf("whether %v is valid, or its digest, depends on the spare capacity", content)
		}
		if !impl.EqualDatabases(d, apart) || !impl.EqualDatabases(apart, d) || !impl.EqualDatabases(d, d) {
			t.Errorf("%v with spare capacity and without are not equal", content)
		}
		if !unchanged() {
			t.Errorf("a function changes its argument %v", content)
		}
	}
	whole := cells(66, 1)
	if !impl.IsValidDatabase(impl.Database{Rows: whole[:64]}) || impl.IsValidDatabase(impl.Database{Rows: whole[:65]}) {
		t.Error("IsValidDatabase goes by the spare capacity")
	}
}

// The same memory may be several rows, or parts of it may be; where one row changes, the others stay.
func TestRowsOfOneMemory(t *testing.T) {
	same, unchanged := roomy(mixed(60, 1))
	lists := [][][]byte{{same[:24], same[:24]}, {same[:24], same[:24], same[:24]}, {same[:24], same[24:48]}, {same[:24], same[10:34], same[36:]},
		// of another size
		{same[:25], same[:25]}, {same[:24], same[:23], same[:24]}, {same, same[:24]}}
	for _, rows := range lists {
		for index := -1; index <= len(rows); index++ {
			for _, cell := range [][]byte{mixed(24, 70), same[:24], same[12:36], same[:23], same} {
				calls := []func(rows [][]byte, cell []byte) (impl.Database, bool){
					func(rows [][]byte, cell []byte) (impl.Database, bool) {
						return impl.ReplaceRow(database(rows...), index, cell)
					},
					func(rows [][]byte, cell []byte) (impl.Database, bool) {
						return impl.XorRow(database(rows...), index, cell)
					},
					func(rows [][]byte, cell []byte) (impl.Database, bool) {
						return impl.XorDatabases(database(rows...), database(rows...))
					},
				}
				var apart [][]byte
				for _, row := range rows {
					apart = append(apart, bytes.Clone(row))
				}
				for i, call := range calls {
					want, wantOk := call(apart, bytes.Clone(cell))
					got, ok := call(rows, cell)
					if ok != wantOk || !sameList(got.Rows, want.Rows) {
						t.Errorf("call %d with row %d of parts of one slice = %v, %v, want %v", i, index, got, ok, want)
					}
					checkFreshList(t, "a function with rows of one memory", got.Rows, unchanged)
				}
			}
		}
	}
}

// A row of a database may be the cell that changes another row of it, or that row itself.
func TestRowsAsCells(t *testing.T) {
	rows, unchanged := roomyList(cells(3, 8))
	d := impl.Database{Rows: rows}
	for index := range 3 {
		for source := range 3 {
			cell := rows[source]
			checkChange(t, "ReplaceRow", impl.ReplaceRow, rows, index, cell, cells(3, 8)[source])
			checkChange(t, "XorRow", impl.XorRow, rows, index, cell, referenceXor(cells(3, 8)[index], cells(3, 8)[source]))
			got, _ := impl.ReplaceRow(d, index, cell)
			checkFreshList(t, "ReplaceRow by a row", got.Rows, unchanged)
			got, _ = impl.XorRow(d, index, cell)
			checkFreshList(t, "XorRow by a row", got.Rows, unchanged)
		}
	}
	got, ok := impl.XorDatabases(d, d)
	if !ok || !sameList(got.Rows, impl.NewDatabase(3).Rows) {
		t.Errorf("XorDatabases of a database with itself = %v, %v", got, ok)
	}
	checkFreshList(t, "XorDatabases of a database with itself", got.Rows, unchanged)
}

// A database that is written to is not what a later call returns.
func TestDatabasesAreFresh(t *testing.T) {
	d, invalid := database(cells(3, 1)...), database(mixed(23, 1), mixed(24, 2))
	one := func(d impl.Database, ok bool) impl.Database { return d }
	calls := []func() impl.Database{
		func() impl.Database { return impl.NewDatabase(3) },
		func() impl.Database { return impl.NewDatabase(64) },
		func() impl.Database { return impl.NewDatabase(0) },
		func() impl.Database { return impl.NewDatabase(65) },
		func() impl.Database { return one(impl.ReplaceRow(d, 1, mixed(24, 9))) },
		func() impl.Database { return one(impl.ReplaceRow(d, 3, mixed(24, 9))) },
		func() impl.Database { return one(impl.ReplaceRow(invalid, 0, mixed(24, 9))) },
		func() impl.Database { return one(impl.ReplaceRow(impl.Database{}, 0, mixed(24, 9))) },
		func() impl.Database { return one(impl.XorRow(d, 1, mixed(24, 9))) },
		func() impl.Database { return one(impl.XorRow(d, 1, mixed(25, 9))) },
		func() impl.Database { return one(impl.XorRow(invalid, 0, mixed(24, 9))) },
		func() impl.Database { return one(impl.XorDatabases(d, d)) },
		func() impl.Database { return one(impl.XorDatabases(d, invalid)) },
		func() impl.Database { return one(impl.XorDatabases(invalid, d)) },
	}
	for i, call := range calls {
		before := call()
		checkFreshList(t, "a function of databases", call().Rows, func() bool { return impl.EqualDatabases(call(), before) })
		if !impl.EqualDatabases(call(), before) {
			t.Errorf("call %d gives %v after an earlier result was written to, want %v", i, call(), before)
		}
	}
	if !sameList(d.Rows, cells(3, 1)) || !sameList(invalid.Rows, [][]byte{mixed(23, 1), mixed(24, 2)}) {
		t.Errorf("the arguments became %v and %v", d, invalid)
	}
	checkAgain(t, "ReadRow", func() []byte { b, _ := impl.ReadRow(d, 1); return b })
	checkAgain(t, "ReadRow", func() []byte { b, _ := impl.ReadRow(invalid, 0); return b })
	checkAgain(t, "ReadRow", func() []byte { b, _ := impl.ReadRow(d, 3); return b })
}
