package tests

import (
	"bytes"
	"math"
	"slices"
	"testing"

	"loop.example/g00516/impl"
)

// someTables lists the numbers of rows for which every row is written.
var someTables = []int{1, 2, 3, 6, 63, 64}

// someCells lists cells with and without zero bytes: the zero cell, cells with a single byte that is not
// zero, the first or the last one, and others.
func someCells() [][]byte {
	first, last := make([]byte, 24), make([]byte, 24)
	first[0], last[23] = 1, 128
	return [][]byte{make([]byte, 24), first, last, mixed(24, 9), bytes.Repeat([]byte{255}, 24)}
}

// zeroRows returns this number of zero cells; it does not use the package under test.
func zeroRows(count int) [][]byte {
	var rows [][]byte
	for range count {
		rows = append(rows, make([]byte, 24))
	}
	return rows
}

// written returns the rows of the database that is zero but for this cell in the row with this index.
func written(rows int, index int, cell []byte) [][]byte {
	return replaced(zeroRows(rows), index, cell)
}

// referenceSumOf returns, for every row, the exclusive or of that row of all databases.
func referenceSumOf(list ...[][]byte) [][]byte {
	var sum [][]byte
	for r := range list[0] {
		var column [][]byte
		for _, rows := range list {
			column = append(column, rows[r])
		}
		sum = append(sum, referenceXor(column...))
	}
	return sum
}

// referenceStreams returns, for every seed, the 64 rows of its database; one of fewer rows has the first
// of these.
func referenceStreams(seeds []int) [][][]byte {
	var list [][][]byte
	for _, seed := range seeds {
		var rows [][]byte
		for r := range 64 {
			rows = append(rows, referenceStream(seed+1000*r, 24))
		}
		list = append(list, rows)
	}
	return list
}

// referenceWrite is a write as chapter 11 states it, with the streams of its seeds.
func referenceWrite(streams [][][]byte, rows int, index int, cell []byte) [][][]byte {
	var list [][][]byte
	for _, stream := range streams {
		list = append(list, stream[:rows])
	}
	return append(list, referenceSumOf(append(slices.Clone(list), written(rows, index, cell))...))
}

// databases returns a database for each of the lists of rows.
func databases(list ...[][]byte) []impl.Database {
	var all []impl.Database
	for _, rows := range list {
		all = append(all, database(rows...))
	}
	return all
}

// rowsOf returns the rows of every database.
func rowsOf(list []impl.Database) [][][]byte {
	var all [][][]byte
	for _, d := range list {
		all = append(all, d.Rows)
	}
	return all
}

// sameDatabases reports whether the databases have the same rows; it does not use the package under test.
func sameDatabases(a []impl.Database, b []impl.Database) bool {
	return slices.EqualFunc(rowsOf(a), rowsOf(b), sameList[byte])
}

// someShares returns this number of valid databases of this number of rows, no two of which are equal.
func someShares(count int, rows int) []impl.Database {
	var list []impl.Database
	for i := range count {
		list = append(list, database(cells(rows, 1+17*i)...))
	}
	return list
}

// otherDatabases lists databases that are no shares of one with this number of rows: valid ones of
// another number of rows, ones with too many rows, and ones with a row of another size.
func otherDatabases(rows int) []impl.Database {
	var list []impl.Database
	for _, count := range []int{0, 1, rows - 1, rows + 1, rows + 2, 2 * rows, 63, 64, 65, 66, 128, 256 + rows} {
		if count >= 0 && (count != rows || count > 64) {
			list = append(list, database(zeroRows(count)...), database(cells(count, 3)...))
		}
	}
	if rows > 0 {
		for _, place := range slices.Compact([]int{0, rows / 2, rows - 1}) {
			for _, row := range [][]byte{nil, {}, mixed(23, 1), make([]byte, 25), mixed(25, 2), mixed(48, 3), mixed(280, 4)} {
				list = append(list, database(replaced(cells(rows, 2), place, row)...))
			}
		}
		list = append(list, impl.Database{}, database(make([][]byte, rows)...), database(slices.Repeat([][]byte{mixed(25, 1)}, rows)...))
	}
	return list
}

// checkWritten reports an error if the databases of a write do not join to this cell in this row and zeros elsewhere.
func checkWritten(t *testing.T, write []impl.Database, rows int, index int, cell []byte) {
	t.Helper()
	got, ok := impl.JoinWrites(write)
	if want := written(rows, index, cell); !ok || !sameList(got.Rows, want) {
		t.Errorf("JoinWrites of %d databases = %v, %v, want %v in row %d of %d", len(write), got, ok, cell, index, rows)
	}
	want := 1
	if bytes.Equal(cell, make([]byte, 24)) {
		want = 0
	}
	if count := impl.CountRowsWritten(got); count != want {
		t.Errorf("CountRowsWritten of %v = %d, want %d", got, count, want)
	}
}

// rejectWrite stops the test if there is a write: the next one might have far too many rows.
func rejectWrite(t *testing.T, rows int, index int, cell []byte, seeds []int) {
	t.Helper()
	if got := impl.MakeWrite(rows, index, cell, seeds); len(got) != 0 {
		t.Fatalf("MakeWrite(%d, %d, %d bytes, %d seeds) has %d databases, want none", rows, index, len(cell), len(seeds), len(got))
	}
}

// checkApplied reports an error if the database of a write is not added to the share.
func checkApplied(t *testing.T, share [][]byte, write [][]byte, want [][]byte) {
	t.Helper()
	if got, ok := impl.ApplyWrite(database(share...), database(write...)); !ok || !sameList(got.Rows, want) {
		t.Errorf("ApplyWrite(%v, %v) = %v, %v, want %v", share, write, got, ok, want)
	}
}

// rejectApplied reports an error if the database of a write is added, or what comes back is no copy of the share.
func rejectApplied(t *testing.T, share [][]byte, write [][]byte) {
	t.Helper()
	if got, ok := impl.ApplyWrite(database(share...), database(write...)); ok || !sameList(got.Rows, share) {
		t.Errorf("ApplyWrite of %d and %d rows = %v, %v, want a copy of %v", len(share), len(write), got, ok, share)
	}
}

// checkJoinedWrites reports an error if the shares do not join to a database with these rows.
func checkJoinedWrites(t *testing.T, shares []impl.Database, want [][]byte) {
	t.Helper()
	if got, ok := impl.JoinWrites(shares); !ok || !sameList(got.Rows, want) {
		t.Errorf("JoinWrites(%v) = %v, %v, want %v", shares, got, ok, want)
	}
}

// rejectJoinedWrites reports an error if the shares are joined, or what comes back has rows.
func rejectJoinedWrites(t *testing.T, shares []impl.Database) {
	t.Helper()
	if got, ok := impl.JoinWrites(shares); ok || len(got.Rows) != 0 {
		t.Errorf("JoinWrites of %d shares = %v, %v, want none: %v", len(shares), got, ok, shares)
	}
}

// checkExplainedWrite reports an error if ExplainWrite does not return the wanted rows.
func checkExplainedWrite(t *testing.T, others []impl.Database, rows int, index int, cell []byte, want [][]byte) {
	t.Helper()
	if got, ok := impl.ExplainWrite(others, rows, index, cell); !ok || !sameList(got.Rows, want) {
		t.Errorf("ExplainWrite(%v, %d, %d, %v) = %v, %v, want %v", others, rows, index, cell, got, ok, want)
	}
}

// rejectExplainedWrite stops the test if the others are explained, or what comes back has rows.
func rejectExplainedWrite(t *testing.T, others []impl.Database, rows int, index int, cell []byte) {
	t.Helper()
	if got, ok := impl.ExplainWrite(others, rows, index, cell); ok || len(got.Rows) != 0 {
		t.Fatalf("ExplainWrite of %d others, %d, %d and %d bytes = %v, %v, want none: %v",
			len(others), rows, index, len(cell), got, ok, others)
	}
}

func TestMakeWrite(t *testing.T) {
	first, last := someCells()[1], someCells()[2]
	last[23] = 1
	cases := []struct {
		rows, index int
		cell        []byte
		seeds       []int
		want        []int // the digests of the databases
	}{
		{4, 2, append([]byte{9}, make([]byte, 23)...), []int{10, 11}, []int{739367451, 966648159, 754496251}},
		{1, 0, mixed(24, 1), []int{5}, []int{304399351, 931079052}},
		{3, 1, make([]byte, 24), []int{7, 8}, []int{1809480613, 2111097051, 1313201735}},
		{3, 2, mixed(24, 5), []int{1, 2, 3}, []int{2141745424, 1683773924, 1425391769, 2054245048}},
		{5, 4, mixed(24, 2), []int{0, -1, impl.Modulus}, []int{170173968, 828472833, 170173968, 867318696}},
		{6, 5, mixed(24, 6), []int{impl.MaxValue, -impl.MaxValue, -1000}, []int{973814532, 785728266, 14250720, 530305608}},
		// two databases of the same seed add up to nothing, and three of them to one
		{2, 1, mixed(24, 9), []int{9, 9}, []int{1531841912, 1531841912, 1307175408}},
		{2, 0, bytes.Repeat([]byte{255}, 24), []int{9, 9, 9}, []int{1531841912, 1531841912, 1531841912, 897870539}},
		// row 1 of one seed has the stream of row 0 of the other
		{4, 3, first, []int{10, 1010}, []int{739367451, 730414261, 56087672}},
		// the seeds of the rows reach the end of int, or go beyond it and come back at the other end
		{3, 0, mixed(24, 3), []int{math.MinInt, math.MaxInt}, []int{2083232978, 312032590, 294730535}},
		{64, 63, mixed(24, 4), []int{math.MaxInt}, []int{53001607, 127168936}},
		{64, 0, last, []int{math.MaxInt - 63000, math.MaxInt - 62999}, []int{464016612, 1883740567, 737075015}},
	}
	for _, c := range cases {
		var got []int
		for _, d := range impl.MakeWrite(c.rows, c.index, c.cell, c.seeds) {
			got = append(got, referenceDigest(d.Rows))
		}
		if !slices.Equal(got, c.want) {
			t.Errorf("MakeWrite(%d, %d, %v, %v) has the digests %v, want %v", c.rows, c.index, c.cell, c.seeds, got, c.want)
		}
	}
	rows := [][]byte{
		{77, 110, 204, 106, 70, 97, 187, 83, 42, 64, 149, 40, 250, 11, 90, 232, 181, 192, 10, 147, 91, 97, 166, 42},
		{238, 34, 149, 70, 54, 101, 210, 126, 105, 147, 251, 162, 136, 172, 15, 177, 146, 177, 15, 172, 135, 161, 250, 145},
		{239, 5, 218, 63, 147, 182, 209, 75, 0, 12, 44, 179, 197, 39, 196, 188, 195, 38, 208, 133, 242, 98, 233, 244},
	}
	want := databases(rows[:2], [][]byte{rows[0], rows[2]})
	if got := impl.MakeWrite(2, 1, mixed(24, 1), []int{10}); !sameDatabases(got, want) {
		t.Errorf("MakeWrite(2, 1, %v, [10]) = %v, want %v", mixed(24, 1), got, want)
	}
}

// Every database of a write but the last is that of its seed, and together they are the cell in its row.
func TestMakeWriteAgainstReference(t *testing.T) {
	for _, seeds := range someSeedLists {
		streams := referenceStreams(seeds)
		for _, rows := range someTables {
			for index := range rows {
				cell := someCells()[index%5]
				got, want := impl.MakeWrite(rows, index, cell, seeds), referenceWrite(streams, rows, index, cell)
				if !sameDatabases(got, databases(want...)) {
					t.Fatalf("MakeWrite(%d, %d, %v, %v) = %v, want %v", rows, index, cell, seeds, got, want)
				}
				checkWritten(t, got, rows, index, cell)
			}
		}
	}
	for rows := 1; rows <= impl.MaxRows; rows++ {
		for i, seed := range []int{3, -5000, math.MaxInt - 1000*rows/2} {
			write := impl.MakeWrite(rows, i*rows/3, someCells()[i], []int{seed})
			for r, row := range write[0].Rows {
				if want := impl.StreamBytes(seed+1000*r, 24); !bytes.Equal(row, want) {
					t.Errorf("row %d of %d for the seed %d is %v, want %v", r, rows, seed, row, want)
				}
			}
			checkWritten(t, write, rows, i*rows/3, someCells()[i])
		}
	}
}

// Every byte of a cell arrives, in every row, whatever the other bytes are.
func TestMakeWriteOfEveryByte(t *testing.T) {
	for place := range 24 {
		for _, value := range []byte{1, 2, 128, 254, 255} {
			cell, other := make([]byte, 24), mixed(24, place)
			cell[place], other[place] = value, value
			for index := range 3 {
				checkWritten(t, impl.MakeWrite(3, index, cell, []int{4, 5}), 3, index, cell)
				checkWritten(t, impl.MakeWrite(3, index, other, []int{4}), 3, index, other)
			}
		}
	}
}

// A write of a zero cell joins to zeros and looks the same for every row, but its databases are no zeros.
func TestMakeWriteOfZeroCell(t *testing.T) {
	zero := make([]byte, 24)
	for _, seeds := range someSeedLists {
		streams := referenceStreams(seeds)
		for _, rows := range someTables {
			first := impl.MakeWrite(rows, 0, zero, seeds)
			if len(first) != len(seeds)+1 {
				t.Fatalf("a write of a zero cell with %d seeds has %d databases", len(seeds), len(first))
			}
			for i, d := range first {
				if len(d.Rows) != rows || i < len(seeds) && impl.CountRowsWritten(d) != rows {
					t.Errorf("database %d of a write of a zero cell in %d rows is %v", i, rows, d)
				}
			}
			for index := range rows {
				write := impl.MakeWrite(rows, index, zero, seeds)
				if !sameDatabases(write, first) {
					t.Errorf("the write of a zero cell to row %d of %d is %v, want %v", index, rows, write, first)
				}
				checkWritten(t, write, rows, index, zero)
			}
			others := rowsOf(first[:len(seeds)])
			if want := referenceWrite(streams, rows, 0, zero)[len(seeds)]; !sameList(referenceSumOf(others...), want) {
				t.Errorf("the databases %v do not add up to the last one, %v", others, want)
			}
			got, ok := impl.ExplainWrite(first[:len(seeds)], rows, rows-1, zero)
			if !ok || !sameList(got.Rows, first[len(seeds)].Rows) {
				t.Errorf("ExplainWrite of a zero cell in row %d = %v, %v, want %v", rows-1, got, ok, first[len(seeds)])
			}
		}
	}
}

func TestMakeWriteOutOfRange(t *testing.T) {
	good := mixed(24, 1)
	for _, seeds := range append(slices.Clone(someSeedLists[:12]), badSeedLists()...) {
		for _, rows := range append([]int{0}, notRows...) {
			for _, index := range []int{0, 1, 63, -1, rows - 1, rows, math.MaxInt, math.MinInt} {
				rejectWrite(t, rows, index, good, seeds)
				rejectWrite(t, rows, index, nil, seeds)
			}
		}
		for _, rows := range someTables {
			for _, index := range badOffsets(rows) {
				rejectWrite(t, rows, index, good, seeds)
				rejectWrite(t, rows, index, make([]byte, 24), seeds)
				rejectWrite(t, rows, index, mixed(25, 1), seeds)
			}
			for _, index := range []int{0, rows / 2, rows - 1} {
				for _, cell := range notCells() {
					rejectWrite(t, rows, index, cell, seeds)
				}
			}
		}
	}
}

// A write has 2 to 4 databases, and 1 or 5 of them are none.
func TestMakeWriteCount(t *testing.T) {
	for count := range 10 {
		for rows := 1; rows <= impl.MaxRows; rows++ {
			want := 0
			if count >= 1 && count <= 3 {
				want = count + 1
			}
			got := impl.MakeWrite(rows, rows-1, mixed(24, rows), make([]int, count))
			if len(got) != want {
				t.Errorf("MakeWrite of %d rows with %d seeds has %d databases, want %d", rows, count, len(got), want)
			}
			for i, d := range got {
				if len(d.Rows) != rows || !impl.IsValidDatabase(d) {
					t.Errorf("database %d of MakeWrite of %d rows with %d seeds is %v", i, rows, count, d)
				}
			}
		}
	}
	for _, seeds := range badSeedLists() {
		for _, rows := range someTables {
			for _, cell := range someCells() {
				rejectWrite(t, rows, 0, cell, seeds)
				rejectWrite(t, rows, rows-1, cell, seeds)
			}
		}
	}
}

// What the seeds give is the same for every row and every cell; only the last database depends on them.
func TestDatabasesFromSeedsIgnoreTheWrite(t *testing.T) {
	for _, rows := range []int{1, 2, 6, 64} {
		for _, seeds := range someSeedLists {
			first, last := impl.MakeWrite(rows, 0, make([]byte, 24), seeds), len(seeds)
			for _, index := range someIndexes(rows) {
				for _, cell := range someCells() {
					write := impl.MakeWrite(rows, index, cell, seeds)
					if !sameDatabases(write[:last], first[:last]) {
						t.Errorf("the databases of %d rows for %v depend on the cell %v or the row %d", rows, seeds, cell, index)
					}
					if want := referenceSumOf(first[last].Rows, written(rows, index, cell)); !sameList(write[last].Rows, want) {
						t.Errorf("the last database for row %d of %d with %v is %v, want %v", index, rows, seeds, write[last], want)
					}
				}
			}
		}
	}
}

// Any byte of any single database may be every byte, whatever is written, in the row that is written and beside it.
func TestSingleDatabaseTakesEveryValue(t *testing.T) {
	for index, cell := range [][]byte{make([]byte, 24), mixed(24, 1)} {
		for servers := 2; servers <= 4; servers++ {
			seen := map[[3]int]bool{}
			for first := range 3000 {
				write := impl.MakeWrite(2, index, cell, []int{first, first + 100500, first + 200700}[:servers-1])
				for i, d := range write {
					for r, row := range d.Rows {
						seen[[3]int{i, r, int(row[0])}] = true
						seen[[3]int{i, r, 256 + int(row[23])}] = true
					}
				}
			}
			if len(seen) != servers*2*512 {
				t.Errorf("the %d databases take only %d values in %d bytes", servers, len(seen), 4*servers)
			}
		}
	}
}

// Every server adds its database to its share; together the shares are then the database with the cell added.
func TestApplyWrite(t *testing.T) {
	for _, rows := range someTables {
		before := cells(rows, rows)
		for servers := 2; servers <= 4; servers++ {
			shares := someShares(servers-1, rows)
			shares = append(shares, database(referenceSumOf(append(rowsOf(shares), before)...)...))
			for index := range rows {
				cell := someCells()[(index+servers)%5]
				write := impl.MakeWrite(rows, index, cell, []int{index, -7, 77000}[:servers-1])
				var after []impl.Database
				for i, share := range shares {
					checkApplied(t, share.Rows, write[i].Rows, referenceSumOf(share.Rows, write[i].Rows))
					applied, _ := impl.ApplyWrite(share, write[i])
					after = append(after, applied)
					// applied twice, it changes nothing
					checkApplied(t, applied.Rows, write[i].Rows, share.Rows)
				}
				checkJoinedWrites(t, after, replaced(before, index, referenceXor(before[index], cell)))
			}
		}
	}
}

// The writes of several clients are applied one after another, in any order.
func TestApplySeveralWrites(t *testing.T) {
	for servers := 2; servers <= 4; servers++ {
		shares, backwards := someShares(servers, 6), someShares(servers, 6)
		want := referenceSumOf(rowsOf(shares)...)
		var writes [][]impl.Database
		for client, index := range []int{4, 0, 5, 4, 2} {
			cell := mixed(24, 50+client)
			writes = append(writes, impl.MakeWrite(6, index, cell, []int{client, client + 50, client + 100}[:servers-1]))
			want[index] = referenceXor(want[index], cell)
		}
		for client := range writes {
			for i := range servers {
				shares[i], _ = impl.ApplyWrite(shares[i], writes[client][i])
				backwards[i], _ = impl.ApplyWrite(backwards[i], writes[4-client][i])
			}
		}
		checkJoinedWrites(t, shares, want)
		if !sameDatabases(shares, backwards) {
			t.Errorf("the shares are %v, or %v after the writes in another order", shares, backwards)
		}
	}
}

func TestApplyWriteAgainstReference(t *testing.T) {
	for _, share := range goodRows() {
		count := len(share)
		for _, write := range [][][]byte{zeroRows(count), cells(count, 70), share} {
			checkApplied(t, share, write, referenceSumOf(share, write))
			checkApplied(t, write, share, referenceSumOf(share, write))
		}
	}
	checkApplied(t, nil, nil, nil)
	checkApplied(t, nil, [][]byte{}, nil)
}

// An invalid share, an invalid database of a write, and different numbers of rows change nothing.
func TestApplyWriteRejects(t *testing.T) {
	for _, bad := range slices.Concat(spoiledRows(), tooManyRows()) {
		good := cells(len(bad), 77)
		rejectApplied(t, bad, bad)
		rejectApplied(t, bad, good)
		rejectApplied(t, good, bad)
		rejectApplied(t, nil, bad)
		rejectApplied(t, bad, nil)
	}
	for first := 0; first <= impl.MaxRows; first++ {
		for _, second := range []int{0, 1, first - 1, first + 1, 2 * first, 63, 64, 65} {
			if second >= 0 && second != first {
				rejectApplied(t, cells(first, 1), cells(second, 2))
				rejectApplied(t, cells(second, 2), cells(first, 1))
				rejectApplied(t, zeroRows(first), zeroRows(second))
			}
		}
	}
	rejectApplied(t, [][]byte{mixed(23, 1)}, [][]byte{mixed(25, 2)})
}

func TestJoinWrites(t *testing.T) {
	a, b, c, d := cells(3, 1), cells(3, 2), cells(3, 3), cells(3, 4)
	cases := []struct {
		shares []impl.Database
		want   [][]byte
	}{
		{databases(a, b), referenceSumOf(a, b)},
		{databases(a, b, c), referenceSumOf(a, b, c)},
		{databases(a, b, c, d), referenceSumOf(a, b, c, d)},
		{databases(a, a), zeroRows(3)},
		{databases(a, a, a), a},
		{databases(a, b, a), b},
		{databases(b, a, a, b), zeroRows(3)},
		{databases(a, zeroRows(3)), a},
		{databases(zeroRows(3), a), a},
		{databases(zeroRows(3), zeroRows(3), zeroRows(3)), zeroRows(3)},
		// databases without rows join to one without rows
		{[]impl.Database{{}, {}}, nil},
		{[]impl.Database{{Rows: [][]byte{}}, {}, {Rows: nil}}, nil},
		{[]impl.Database{{}, {}, {}, {}}, nil},
	}
	for _, c := range cases {
		checkJoinedWrites(t, c.shares, c.want)
	}
	for rows := 0; rows <= impl.MaxRows; rows++ {
		for count := 2; count <= 4; count++ {
			shares := someShares(count, rows)
			want := referenceSumOf(rowsOf(shares)...)
			checkJoinedWrites(t, shares, want)
			slices.Reverse(shares)
			checkJoinedWrites(t, shares, want)
		}
	}
}

// There are 2 to 4 servers, whatever their databases are.
func TestJoinWritesCount(t *testing.T) {
	rejectJoinedWrites(t, nil)
	rejectJoinedWrites(t, []impl.Database{})
	kinds := databases(nil, zeroRows(1), cells(3, 1), cells(64, 1), cells(65, 1), [][]byte{nil}, [][]byte{mixed(23, 1), mixed(25, 2)})
	for _, count := range []int{1, 5, 6, 7, 255, 256, 257, 258, 260, 1000} {
		for _, d := range kinds {
			rejectJoinedWrites(t, slices.Repeat([]impl.Database{d}, count))
		}
	}
	rejectJoinedWrites(t, make([]impl.Database, 1<<16+2))
	for _, rows := range []int{0, 1, 3, 64} {
		for _, bad := range otherDatabases(rows) {
			rejectJoinedWrites(t, []impl.Database{bad})
			for place := range 5 {
				shares := someShares(5, rows)
				shares[place] = bad
				rejectJoinedWrites(t, shares)
			}
		}
	}
	rejectJoinedWrites(t, impl.MakeWrite(4, 1, mixed(24, 1), []int{5, 6})[:1])
	rejectJoinedWrites(t, append(impl.MakeWrite(4, 1, mixed(24, 1), []int{5, 6, 7}), impl.NewDatabase(4)))
}

// One database that is invalid or has another number of rows spoils the write at every place.
func TestJoinWritesOfOtherDatabases(t *testing.T) {
	for _, rows := range []int{0, 1, 2, 6, 63, 64} {
		for _, bad := range otherDatabases(rows) {
			for count := 2; count <= 4; count++ {
				for place := range count {
					shares := someShares(count, rows)
					shares[place] = bad
					rejectJoinedWrites(t, shares)
				}
				same := slices.Repeat([]impl.Database{bad}, count)
				if impl.IsValidDatabase(bad) {
					checkJoinedWrites(t, same, referenceSumOf(rowsOf(same)...))
				} else {
					rejectJoinedWrites(t, same)
				}
			}
		}
	}
	for _, bad := range slices.Concat(spoiledRows(), tooManyRows()) {
		for count := 2; count <= 4; count++ {
			rejectJoinedWrites(t, databases(slices.Repeat([][][]byte{bad}, count)...))
		}
		good := cells(len(bad), 5)
		rejectJoinedWrites(t, databases(bad, good))
		rejectJoinedWrites(t, databases(good, bad))
		rejectJoinedWrites(t, databases(good, bad, good))
	}
}

func TestCountRowsWritten(t *testing.T) {
	zero := make([]byte, 24)
	first, last := someCells()[1], someCells()[2]
	cases := []struct {
		rows [][]byte
		want int
	}{
		{nil, 0},
		{[][]byte{}, 0},
		{[][]byte{zero}, 0},
		{[][]byte{first}, 1},
		{[][]byte{last}, 1},
		{[][]byte{first, zero, last}, 2},
		{[][]byte{zero, first, zero}, 1},
		{[][]byte{first, first}, 2},
		{zeroRows(64), 0},
		{cells(64, 1), 64},
		{written(64, 0, last), 1},
		{written(64, 63, first), 1},
		// rows of another size: without bytes, shorter and longer than a cell
		{[][]byte{nil}, 0},
		{[][]byte{{}, nil}, 0},
		{[][]byte{{0}}, 0},
		{[][]byte{{1}}, 1},
		{[][]byte{make([]byte, 23), make([]byte, 25), make([]byte, 400)}, 0},
		{[][]byte{append(make([]byte, 22), 1), append(make([]byte, 24), 1), append(make([]byte, 400), 1)}, 3},
		{[][]byte{{}, {7}, nil, {0, 0}, first, {0, 255}, zero}, 3},
		// more than MaxRows of them
		{zeroRows(65), 0},
		{cells(65, 1), 65},
		{written(65, 64, last), 1},
		{append(zeroRows(300), first), 1},
		{slices.Repeat([][]byte{first, zero}, 500), 500},
		{slices.Repeat([][]byte{last, first, nil}, 1<<16), 1 << 17},
	}
	for _, c := range cases {
		if got := impl.CountRowsWritten(database(c.rows...)); got != c.want {
			t.Errorf("CountRowsWritten of %d rows = %d, want %d", len(c.rows), got, c.want)
		}
	}
	if got := impl.CountRowsWritten(impl.Database{}); got != 0 {
		t.Errorf("CountRowsWritten of the zero value = %d", got)
	}
	for count := range 67 {
		for wanted := 0; wanted <= count; wanted++ {
			rows := zeroRows(count)
			for i := range wanted {
				// steps of 31 come to every row once, unless 31 divides the number of rows
				place := i
				if count%31 != 0 {
					place = i * 31 % count
				}
				rows[place] = someCells()[1+i%4]
			}
			if got := impl.CountRowsWritten(database(rows...)); got != wanted {
				t.Errorf("CountRowsWritten of %d rows = %d, want %d", count, got, wanted)
			}
		}
	}
}

func TestExplainWrite(t *testing.T) {
	a, b := cells(3, 1), cells(3, 2)
	cell := mixed(24, 90)
	cases := []struct {
		others      []impl.Database
		rows, index int
		cell        []byte
		want        [][]byte
	}{
		{databases(zeroRows(3)), 3, 1, cell, [][]byte{make([]byte, 24), cell, make([]byte, 24)}},
		{databases(zeroRows(3)), 3, 1, make([]byte, 24), zeroRows(3)},
		{databases(a), 3, 0, cell, [][]byte{referenceXor(a[0], cell), a[1], a[2]}},
		{databases(a), 3, 2, cell, [][]byte{a[0], a[1], referenceXor(a[2], cell)}},
		{databases(a), 3, 2, a[2], [][]byte{a[0], a[1], make([]byte, 24)}},
		{databases(a), 3, 2, make([]byte, 24), a},
		{databases(a, b), 3, 1, cell, referenceSumOf(a, b, written(3, 1, cell))},
		{databases(a, a), 3, 1, cell, written(3, 1, cell)},
		{databases(a, b, a), 3, 1, cell, referenceSumOf(b, written(3, 1, cell))},
		{databases([][]byte{cell}), 1, 0, cell, zeroRows(1)},
		// more of them than a write has beside its last one
		{databases(a, b, a, a), 3, 0, cell, referenceSumOf(a, b, written(3, 0, cell))},
		{databases(a, b, a, a, b), 3, 0, cell, referenceSumOf(a, written(3, 0, cell))},
		{slices.Repeat(databases(a), 257), 3, 2, cell, referenceSumOf(a, written(3, 2, cell))},
	}
	for _, c := range cases {
		checkExplainedWrite(t, c.others, c.rows, c.index, c.cell, c.want)
	}
	for rows := 1; rows <= impl.MaxRows; rows++ {
		for _, index := range someIndexes(rows) {
			for count := 1; count <= 5; count++ {
				others, cell := someShares(count, rows), someCells()[(index+count)%5]
				checkExplainedWrite(t, others, rows, index, cell, referenceSumOf(append(rowsOf(others), written(rows, index, cell))...))
			}
		}
	}
}

// Without one database, whichever it is, the others fit the write of every cell to every row as well.
func TestAllDatabasesButOneRevealNothing(t *testing.T) {
	for _, rows := range []int{1, 2, 3, 6, 64} {
		for _, seeds := range [][]int{{5}, {math.MaxInt}, {5, 6}, {9, 9}, {1, 2, 3}, {-1, 0, math.MinInt}} {
			for place, cell := range someCells() {
				index := place * rows / 5
				write := impl.MakeWrite(rows, index, cell, seeds)
				for left := range write {
					others := without(write, left)
					for _, other := range someIndexes(rows) {
						for _, text := range someCells() {
							made, ok := impl.ExplainWrite(others, rows, other, text)
							same := sameList(written(rows, other, text), written(rows, index, cell))
							if !ok || sameList(made.Rows, write[left].Rows) != same {
								t.Fatalf("ExplainWrite(%v, %d, %d, %v) = %v, %v beside %v", others, rows, other, text, made, ok, write)
							}
							checkWritten(t, slices.Insert(slices.Clone(others), left, made), rows, other, text)
						}
					}
				}
			}
		}
	}
}

// With the last one missing, what explains the others is the write that these seeds give.
func TestExplainWriteIsMakeWrite(t *testing.T) {
	for _, rows := range someTables {
		for _, seeds := range someSeedLists {
			last := len(seeds)
			others := impl.MakeWrite(rows, 0, mixed(24, 1), seeds)[:last]
			for index := range rows {
				cell := someCells()[index%5]
				checkExplainedWrite(t, others, rows, index, cell, impl.MakeWrite(rows, index, cell, seeds)[last].Rows)
			}
		}
	}
}

func TestExplainWriteOutOfRange(t *testing.T) {
	good := mixed(24, 1)
	for _, rows := range append([]int{0}, notRows...) {
		for _, index := range []int{0, 1, 63, -1, rows - 1, rows, math.MaxInt, math.MinInt} {
			lists := [][]impl.Database{nil, {{}}, {{}, {}}, databases(cells(1, 1)), databases(cells(64, 1)), databases(cells(65, 1), cells(65, 2))}
			if rows > 0 && rows < 1000 {
				lists = append(lists, someShares(2, rows))
			}
			for _, others := range lists {
				rejectExplainedWrite(t, others, rows, index, good)
				rejectExplainedWrite(t, others, rows, index, nil)
			}
		}
	}
	for _, rows := range someTables {
		for count := range 6 {
			others := someShares(count, rows)
			for _, index := range badOffsets(rows) {
				rejectExplainedWrite(t, others, rows, index, good)
				rejectExplainedWrite(t, others, rows, index, make([]byte, 24))
				rejectExplainedWrite(t, others, rows, index, mixed(25, 1))
			}
			for _, cell := range notCells() {
				rejectExplainedWrite(t, others, rows, 0, cell)
				rejectExplainedWrite(t, others, rows, rows-1, cell)
			}
		}
	}
}

// Nothing explains a write of which no database is known: the one that is missing would show the row.
func TestExplainWriteWithoutOthers(t *testing.T) {
	for _, rows := range append([]int{0, 65}, someTables...) {
		for index := -1; index <= rows; index++ {
			for _, cell := range append(someCells(), nil, mixed(23, 1)) {
				rejectExplainedWrite(t, nil, rows, index, cell)
				rejectExplainedWrite(t, []impl.Database{}, rows, index, cell)
			}
		}
	}
}

// One database that is invalid or has another number of rows cannot be explained at any place, nor can several.
func TestExplainWriteOfOtherDatabases(t *testing.T) {
	for _, rows := range []int{1, 2, 6, 63, 64} {
		for _, bad := range otherDatabases(rows) {
			for _, index := range slices.Compact([]int{0, rows / 2, rows - 1}) {
				for count := 1; count <= 5; count++ {
					for place := range count {
						others := someShares(count, rows)
						others[place] = bad
						rejectExplainedWrite(t, others, rows, index, mixed(24, 1))
					}
					rejectExplainedWrite(t, slices.Repeat([]impl.Database{bad}, count), rows, index, make([]byte, 24))
				}
			}
		}
	}
}

func TestCollideWrites(t *testing.T) {
	cases := []struct{ a, b, want []byte }{
		{nil, nil, nil},
		{[]byte{}, nil, nil},
		{[]byte{1, 2}, nil, []byte{1, 2}},
		{nil, []byte{1, 2}, []byte{1, 2}},
		{[]byte{}, []byte{0}, []byte{0}},
		{[]byte{1, 2}, []byte{3}, []byte{2, 2}},
		{[]byte{3}, []byte{1, 2}, []byte{2, 2}},
		{[]byte{5, 6}, []byte{5, 6}, []byte{0, 0}},
		{[]byte{255, 0}, []byte{15, 240}, []byte{240, 240}},
		{mixed(24, 1), make([]byte, 24), mixed(24, 1)},
		{mixed(24, 1), mixed(24, 1), make([]byte, 24)},
		{make([]byte, 24), make([]byte, 25), make([]byte, 25)},
		{mixed(24, 1), mixed(24, 1)[:23], append(make([]byte, 23), mixed(24, 1)[23])},
	}
	for _, c := range cases {
		if got := impl.CollideWrites(c.a, c.b); !bytes.Equal(got, c.want) {
			t.Errorf("CollideWrites(%v, %v) = %v, want %v", c.a, c.b, got, c.want)
		}
	}
	for _, a := range append(someStrings(), notCells()...) {
		for _, b := range append(someStrings(), someCells()...) {
			if got, want := impl.CollideWrites(a, b), referenceXor(a, b); !bytes.Equal(got, want) {
				t.Errorf("CollideWrites(%v, %v) = %v, want %v", a, b, got, want)
			}
			if got, want := impl.CollideWrites(b, a), referenceXor(a, b); !bytes.Equal(got, want) {
				t.Errorf("CollideWrites(%v, %v) = %v, want %v", b, a, got, want)
			}
		}
	}
}

// Two writes to one row collide there; two writes to different rows are both found.
func TestTwoWritesInOneRound(t *testing.T) {
	zero := make([]byte, 24)
	for _, rows := range []int{1, 2, 6, 64} {
		for servers := 2; servers <= 4; servers++ {
			for first, a := range someCells() {
				for second, b := range someCells() {
					i, j := first*rows/5, second*rows/5
					one := impl.MakeWrite(rows, i, a, []int{1, 2, 3}[:servers-1])
					other := impl.MakeWrite(rows, j, b, []int{4, 5, 6}[:servers-1])
					var sums []impl.Database
					for server := range servers {
						d, _ := impl.ApplyWrite(impl.NewDatabase(rows), one[server])
						d, _ = impl.ApplyWrite(d, other[server])
						sums = append(sums, d)
					}
					want, count := replaced(written(rows, i, a), j, b), 0
					if i == j {
						want = written(rows, i, impl.CollideWrites(a, b))
					}
					for _, row := range want {
						if !bytes.Equal(row, zero) {
							count++
						}
					}
					checkJoinedWrites(t, sums, want)
					joined, _ := impl.JoinWrites(sums)
					if got := impl.CountRowsWritten(joined); got != count {
						t.Errorf("%d rows of %d are written by %v in row %d and %v in row %d, want %d", got, rows, a, i, b, j, count)
					}
				}
			}
		}
	}
	for place := range 64 {
		one := impl.MakeWrite(64, place, mixed(24, 1), []int{place})
		other := impl.MakeWrite(64, 63-place, mixed(24, 2), []int{place + 64})
		first, _ := impl.ApplyWrite(one[0], other[0])
		last, _ := impl.ApplyWrite(one[1], other[1])
		joined, ok := impl.JoinWrites([]impl.Database{first, last})
		if !ok || impl.CountRowsWritten(joined) != 2 || !bytes.Equal(joined.Rows[place], mixed(24, 1)) {
			t.Errorf("two writes to the rows %d and %d join to %v, %v", place, 63-place, joined, ok)
		}
	}
}

// roomyDatabases returns databases with the rows of list and spare capacity behind the list, behind the
// rows of each database and behind each row, and a function that tells whether all of it is as it was.
func roomyDatabases(list []impl.Database) ([]impl.Database, func() bool) {
	var whole []impl.Database
	var checks []func() bool
	for _, d := range append(slices.Clone(list), slices.Repeat(databases(cells(3, 165)), 5)...) {
		rows, unchanged := roomyList(d.Rows)
		whole = append(whole, impl.Database{Rows: rows})
		checks = append(checks, unchanged)
	}
	before := rowsOf(whole)
	return whole[:len(list)], func() bool {
		for i, d := range whole {
			same := len(d.Rows) == len(before[i]) && cap(d.Rows) == cap(before[i]) && &d.Rows[:1][0] == &before[i][:1][0]
			if !same || !checks[i]() {
				return false
			}
		}
		return true
	}
}

// checkFreshDatabases fills the rows of all databases one by one, then the places of their rows, and then
// their own places, and reports an error if an argument or another database changes by that.
func checkFreshDatabases(t *testing.T, name string, result []impl.Database, unchanged func() bool) {
	t.Helper()
	checkFreshList(t, name, slices.Concat(rowsOf(result)...), unchanged)
	var before [][][]byte
	for _, d := range result {
		before = append(before, slices.Clone(d.Rows))
	}
	for i, d := range result {
		whole := d.Rows[:cap(d.Rows)]
		for j := range whole {
			whole[j] = []byte{0x5a}
		}
		for j, other := range result {
			if j > i && !sameList(other.Rows, before[j]) {
				t.Fatalf("the databases %d and %d of the result of %s share the places of their rows", i, j, name)
			}
		}
		if !unchanged() {
			t.Errorf("the result of %s shares the places of rows with an argument", name)
		}
	}
	whole := result[:cap(result)]
	for i := range whole {
		whole[i] = database([]byte{0x5a})
	}
	if !unchanged() {
		t.Errorf("the result of %s shares its places with an argument", name)
	}
}

func TestMakeWriteCopies(t *testing.T) {
	for _, list := range append(append([][]int{{}}, someSeedLists[:18]...), badSeedLists()[:6]...) {
		for _, rows := range []int{-1, 0, 1, 3, 20, 65} {
			for _, index := range []int{0, rows - 1, rows} {
				for _, text := range [][]byte{mixed(24, 1), make([]byte, 24), mixed(23, 2), nil} {
					seeds, unchangedSeeds := roomy(list)
					cell, unchangedCell := roomy(text)
					got := impl.MakeWrite(rows, index, cell, seeds)
					// the integers behind the seeds are none of them, nor are the bytes behind the cell
					if !sameDatabases(got, impl.MakeWrite(rows, index, text, list)) {
						t.Errorf("MakeWrite(%d, %d, %v, %v) with spare capacity = %v", rows, index, text, list, got)
					}
					checkFreshDatabases(t, "MakeWrite", got, func() bool { return unchangedSeeds() && unchangedCell() })
				}
			}
		}
	}
	// the databases of equal seeds are equal, but share no memory
	for _, seeds := range someSeedLists {
		checkFreshDatabases(t, "MakeWrite", impl.MakeWrite(64, 2, mixed(24, 1), seeds), func() bool { return true })
	}
}

func TestApplyWriteCopies(t *testing.T) {
	for _, first := range rowsToCopy() {
		for _, second := range append(rowsToCopy(), cells(len(first), 60), zeroRows(len(first))) {
			list := databases(first, second)
			spare, unchanged := roomyDatabases(list)
			got, ok := impl.ApplyWrite(spare[0], spare[1])
			want, wantOk := impl.ApplyWrite(list[0], list[1])
			if ok != wantOk || !sameList(got.Rows, want.Rows) {
				t.Errorf("ApplyWrite of %d and %d rows with spare capacity = %v, %v", len(first), len(second), got, ok)
			}
			checkFreshList(t, "ApplyWrite", got.Rows, unchanged)
		}
	}
}

// writesToCopy lists shares of every kind, for tests that write over what comes of them.
func writesToCopy() [][]impl.Database {
	lists := [][]impl.Database{nil, {}, {{}}, {{}, {}}, databases(cells(3, 1)), databases(cells(3, 1), zeroRows(3)),
		databases(zeroRows(3), cells(3, 1)), databases(cells(3, 1), cells(2, 1)), databases(cells(2, 1), cells(3, 1)), databases(cells(64, 1), cells(64, 2)),
		databases(cells(65, 1), cells(65, 2)), databases(replaced(cells(3, 1), 1, nil), cells(3, 2)),
		databases(cells(3, 1), cells(3, 2), replaced(cells(3, 1), 2, mixed(25, 1))), databases([][]byte{nil, nil, nil})}
	for count := range 7 {
		lists = append(lists, someShares(count, 3), someShares(count, 1))
	}
	return append(lists, impl.MakeWrite(3, 1, mixed(24, 7), []int{1, 2, 3}))
}

func TestJoinAndExplainWritesCopy(t *testing.T) {
	for _, list := range writesToCopy() {
		shares, unchanged := roomyDatabases(list)
		got, ok := impl.JoinWrites(shares)
		want, wantOk := impl.JoinWrites(list)
		if ok != wantOk || !sameList(got.Rows, want.Rows) {
			t.Errorf("JoinWrites(%v) with spare capacity = %v, %v", list, got, ok)
		}
		checkFreshList(t, "JoinWrites", got.Rows, unchanged)
		for _, rows := range []int{-1, 0, 1, 2, 3, 64, 65} {
			for _, index := range []int{0, rows - 1, rows} {
				for _, text := range [][]byte{mixed(24, 1), make([]byte, 24), mixed(25, 2), nil} {
					others, unchangedOthers := roomyDatabases(list)
					cell, unchangedCell := roomy(text)
					got, ok := impl.ExplainWrite(others, rows, index, cell)
					want, wantOk := impl.ExplainWrite(list, rows, index, text)
					if ok != wantOk || !sameList(got.Rows, want.Rows) {
						t.Errorf("ExplainWrite(%v, %d, %d, %v) with spare capacity = %v, %v", list, rows, index, text, got, ok)
					}
					checkFreshList(t, "ExplainWrite", got.Rows, func() bool { return unchangedOthers() && unchangedCell() })
				}
			}
		}
	}
}

func TestCountRowsWrittenLeavesArgument(t *testing.T) {
	for _, content := range rowsToCopy() {
		list := databases(content)
		spare, unchanged := roomyDatabases(list)
		// neither the rows behind the database nor the bytes behind a row count
		if impl.CountRowsWritten(spare[0]) != impl.CountRowsWritten(list[0]) || !unchanged() {
			t.Errorf("CountRowsWritten(%v) goes by the spare capacity or changes it", content)
		}
	}
	for _, content := range [][][]byte{nil, {nil}, {{}}, zeroRows(3), zeroRows(64)} {
		spare, _ := roomyDatabases(databases(content))
		if got := impl.CountRowsWritten(spare[0]); got != 0 {
			t.Errorf("CountRowsWritten(%v) with spare capacity = %d", content, got)
		}
	}
}

func TestCollideWritesCopies(t *testing.T) {
	for _, first := range append(someStrings(), mixed(24, 1)) {
		for _, second := range append(someStrings(), make([]byte, 24)) {
			a, unchangedA := roomy(first)
			b, unchangedB := roomy(second)
			got := impl.CollideWrites(a, b)
			if !bytes.Equal(got, referenceXor(first, second)) {
				t.Errorf("CollideWrites(%v, %v) with spare capacity = %v", first, second, got)
			}
			checkFresh(t, "CollideWrites", got, func() bool { return unchangedA() && unchangedB() })
		}
	}
	same, unchanged := roomy(mixed(24, 1))
	for _, pair := range [][2][]byte{{same, same}, {same, same[:12]}, {same[:12], same}, {same[5:], same}, {same, nil}, {nil, same}} {
		want := referenceXor(pair[0], pair[1])
		got := impl.CollideWrites(pair[0], pair[1])
		if !bytes.Equal(got, want) {
			t.Errorf("CollideWrites of parts of one slice = %v, want %v", got, want)
		}
		checkFresh(t, "CollideWrites of parts of one slice", got, unchanged)
	}
}

// The same memory may be several databases of a write, several rows of one, or the cell too.
func TestWritesOfOneMemory(t *testing.T) {
	list, unchanged := roomyDatabases(databases(cells(3, 8), cells(3, 9)))
	a, b := list[0], list[1]
	checkJoinedWrites(t, []impl.Database{a, a}, zeroRows(3))
	checkJoinedWrites(t, []impl.Database{a, a, a}, cells(3, 8))
	checkJoinedWrites(t, []impl.Database{a, b, a, a}, referenceSumOf(cells(3, 8), cells(3, 9)))
	checkApplied(t, a.Rows, a.Rows, zeroRows(3))
	shares := [][]impl.Database{{a, a}, {a, a, a}, {a, b, b, a}, {a, b}, {a}, {a, {Rows: a.Rows[:2]}}}
	for _, others := range shares {
		got, _ := impl.JoinWrites(others)
		checkFreshList(t, "JoinWrites of one memory", got.Rows, unchanged)
		got, _ = impl.ApplyWrite(others[0], others[len(others)-1])
		checkFreshList(t, "ApplyWrite of one memory", got.Rows, unchanged)
		for index := range 3 {
			// the cell is a row of the first one
			cell := a.Rows[index]
			got, ok := impl.ExplainWrite(others, 3, index, cell)
			if ok && !sameList(got.Rows, referenceSumOf(append(rowsOf(others), written(3, index, cell))...)) {
				t.Errorf("ExplainWrite of %v with row %d as the cell = %v", others, index, got)
			}
			checkFreshList(t, "ExplainWrite of one memory", got.Rows, unchanged)
			checkFreshDatabases(t, "MakeWrite of a row", impl.MakeWrite(3, index, cell, []int{9, 9}), unchanged)
		}
	}
	// rows that are one slice, or parts of it
	same, untouched := roomy(mixed(60, 1))
	d := database(same[:24], same[:24], same[10:34], same[36:])
	want := referenceSumOf(d.Rows, cells(4, 5))
	checkJoinedWrites(t, []impl.Database{d, database(cells(4, 5)...)}, want)
	checkJoinedWrites(t, []impl.Database{database(cells(4, 5)...), d}, want)
	whole := mixed(60, 1)
	checkExplainedWrite(t, []impl.Database{d}, 4, 1, same[:24], [][]byte{whole[:24], make([]byte, 24), whole[10:34], whole[36:]})
	got, _ := impl.JoinWrites([]impl.Database{d, d, d})
	checkFreshList(t, "JoinWrites of rows of one memory", got.Rows, untouched)
	got, _ = impl.ExplainWrite([]impl.Database{d}, 4, 0, same[:24])
	checkFreshList(t, "ExplainWrite of rows of one memory", got.Rows, untouched)
}

// What is written to is not what a later call returns.
func TestWritesAreFresh(t *testing.T) {
	makers := []func() []impl.Database{
		func() []impl.Database { return impl.MakeWrite(6, 4, mixed(24, 1), []int{10, 11}) },
		func() []impl.Database { return impl.MakeWrite(6, 4, make([]byte, 24), []int{10, 10, 10}) },
		func() []impl.Database { return impl.MakeWrite(6, 6, mixed(24, 1), []int{10}) },
		func() []impl.Database { return impl.MakeWrite(6, 4, mixed(24, 1), nil) },
	}
	for i, call := range makers {
		before := call()
		checkFreshDatabases(t, "MakeWrite", call(), func() bool { return sameDatabases(call(), before) })
		if got := call(); !sameDatabases(got, before) {
			t.Errorf("write %d is %v after an earlier one was written to, want %v", i, got, before)
		}
	}
	a, b, short := database(cells(3, 1)...), database(cells(3, 2)...), database(cells(2, 3)...)
	one := func(d impl.Database, ok bool) impl.Database { return d }
	calls := []func() impl.Database{
		func() impl.Database { return one(impl.ApplyWrite(a, b)) },
		func() impl.Database { return one(impl.ApplyWrite(a, short)) },
		func() impl.Database { return one(impl.ApplyWrite(impl.Database{}, a)) },
		func() impl.Database { return one(impl.JoinWrites([]impl.Database{a, b})) },
		func() impl.Database { return one(impl.JoinWrites([]impl.Database{a, short})) },
		func() impl.Database { return one(impl.JoinWrites(nil)) },
		func() impl.Database { return one(impl.ExplainWrite([]impl.Database{a, b}, 3, 1, mixed(24, 1))) },
		func() impl.Database { return one(impl.ExplainWrite([]impl.Database{a, short}, 3, 1, mixed(24, 1))) },
		func() impl.Database { return one(impl.ExplainWrite(nil, 3, 1, mixed(24, 1))) },
	}
	for i, call := range calls {
		before := call()
		checkFreshList(t, "a function of writes", call().Rows, func() bool { return sameList(call().Rows, before.Rows) })
		if got := call(); !sameList(got.Rows, before.Rows) {
			t.Errorf("call %d gives %v after an earlier result was written to, want %v", i, got, before)
		}
	}
	checkAgain(t, "CollideWrites", func() []byte { return impl.CollideWrites(a.Rows[0], b.Rows[0]) })
	checkAgain(t, "CollideWrites", func() []byte { return impl.CollideWrites(a.Rows[0], nil) })
	checkAgain(t, "CollideWrites", func() []byte { return impl.CollideWrites(nil, nil) })
	if !sameList(a.Rows, cells(3, 1)) || !sameList(b.Rows, cells(3, 2)) || !sameList(short.Rows, cells(2, 3)) {
		t.Errorf("the arguments became %v, %v and %v", a, b, short)
	}
}
