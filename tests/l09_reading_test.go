package tests

import (
	"bytes"
	"math"
	"slices"
	"testing"

	"loop.example/g00516/impl"
)

// unit returns the selection of one row only; it does not use the package under test.
func unit(rows int, index int) []int {
	v := make([]int, rows)
	v[index] = 1
	return v
}

// referenceParity counts, for every row, the selections in which it is selected: the sum modulo 2 is 1
// where this is odd. All of them must have the same rows.
func referenceParity(list ...[]int) []int {
	sum := make([]int, len(list[0]))
	for i := range sum {
		count := 0
		for _, v := range list {
			count += v[i]
		}
		sum[i] = count % 2
	}
	return sum
}

// referenceQuery is a query as chapter 9 states it.
func referenceQuery(rows int, index int, seeds []int) [][]int {
	var query [][]int
	for _, seed := range seeds {
		query = append(query, referenceRandom(seed, rows))
	}
	return append(query, referenceParity(append(slices.Clone(query), unit(rows, index))...))
}

// referenceAnswer is the exclusive or of a zero cell and the selected rows.
func referenceAnswer(rows [][]byte, v []int) []byte {
	return referenceXor(make([]byte, 24), referenceSelect(rows, v))
}

// otherTables lists selections of another number of rows than this one, and vectors of this number of
// elements, or of too many, that are no selections.
func otherTables(rows int) [][]int {
	var list [][]int
	for _, length := range []int{0, 1, rows - 1, rows + 1, rows + 2, 2 * rows, 8, 63, 64, 65, 66, 256 + rows} {
		if length >= 0 && (length != rows || length > 64) {
			list = append(list, make([]int, length), slices.Repeat([]int{1}, length))
		}
	}
	if rows > 0 {
		list = append(list, nil, []int{})
		for _, place := range slices.Compact([]int{0, rows / 2, rows - 1}) {
			for _, element := range notBits {
				v := make([]int, rows)
				v[place] = element
				ones := slices.Repeat([]int{1}, rows)
				ones[place] = element
				list = append(list, v, ones)
			}
		}
	}
	return list
}

// selections returns this number of selections of rows rows, which differ where there are enough rows.
func selections(count int, rows int, start int) [][]int {
	var list [][]int
	for i := range count {
		v := make([]int, rows)
		for j := range v {
			v[j] = (start + 7*i + j*j + i*j) % 5 % 2
		}
		list = append(list, v)
	}
	return list
}

// checkQuery reports an error if MakeQuery does not return the wanted selections.
func checkQuery(t *testing.T, rows int, index int, seeds []int, want [][]int) {
	t.Helper()
	if got := impl.MakeQuery(rows, index, seeds); !sameList(got, want) {
		t.Errorf("MakeQuery(%d, %d, %v) = %v, want %v", rows, index, seeds, got, want)
	}
}

// rejectQuery stops the test if there is a query: the next one might have far too many rows.
func rejectQuery(t *testing.T, rows int, index int, seeds []int) {
	t.Helper()
	if got := impl.MakeQuery(rows, index, seeds); len(got) != 0 {
		t.Fatalf("MakeQuery(%d, %d, %d seeds) has %d selections, want none", rows, index, len(seeds), len(got))
	}
}

// checkJoinedQuery reports an error if the selections do not join to the wanted one.
func checkJoinedQuery(t *testing.T, query [][]int, want []int) {
	t.Helper()
	if got := impl.JoinQuery(query); !slices.Equal(got, want) {
		t.Errorf("JoinQuery(%v) = %v, want %v", query, got, want)
	}
}

// checkAnswer reports an error if AnswerQuery does not return the wanted answer; nil stands for none.
func checkAnswer(t *testing.T, rows [][]byte, selection []int, want []byte) {
	t.Helper()
	if got := impl.AnswerQuery(database(rows...), selection); !bytes.Equal(got, want) {
		t.Errorf("AnswerQuery of %d rows, %v, with %v = %v, want %v", len(rows), rows, selection, got, want)
	}
}

// checkCombined reports an error if the answers do not give the wanted cell.
func checkCombined(t *testing.T, answers [][]byte, want []byte) {
	t.Helper()
	if got, ok := impl.CombineAnswers(answers); !ok || !bytes.Equal(got, want) {
		t.Errorf("CombineAnswers(%v) = %v, %v, want %v", answers, got, ok, want)
	}
}

// rejectCombined reports an error if the answers are combined.
func rejectCombined(t *testing.T, answers [][]byte) {
	t.Helper()
	if got, ok := impl.CombineAnswers(answers); ok || len(got) != 0 {
		t.Errorf("CombineAnswers of %d answers = %v, %v, want none: %v", len(answers), got, ok, answers)
	}
}

// checkRead reports an error if the row is not read as it is.
func checkRead(t *testing.T, rows [][]byte, index int, seeds []int) {
	t.Helper()
	if got, ok := impl.ReadPrivately(database(rows...), index, seeds); !ok || !bytes.Equal(got, rows[index]) {
		t.Errorf("ReadPrivately of row %d of %d with %v = %v, %v, want %v", index, len(rows), seeds, got, ok, rows[index])
	}
}

// rejectRead reports an error if something is read.
func rejectRead(t *testing.T, rows [][]byte, index int, seeds []int) {
	t.Helper()
	if got, ok := impl.ReadPrivately(database(rows...), index, seeds); ok || len(got) != 0 {
		t.Errorf("ReadPrivately of row %d of %d with %d seeds = %v, %v, want none", index, len(rows), len(seeds), got, ok)
	}
}

// checkExplained reports an error if ExplainSelections does not return the wanted selection.
func checkExplained(t *testing.T, others [][]int, rows int, index int, want []int) {
	t.Helper()
	if got, ok := impl.ExplainSelections(others, rows, index); !ok || !slices.Equal(got, want) {
		t.Errorf("ExplainSelections(%v, %d, %d) = %v, %v, want %v", others, rows, index, got, ok, want)
	}
}

// rejectExplained stops the test if the others are explained: the next ones might have far too many rows.
func rejectExplained(t *testing.T, others [][]int, rows int, index int) {
	t.Helper()
	if got, ok := impl.ExplainSelections(others, rows, index); ok || len(got) != 0 {
		t.Fatalf("ExplainSelections(%v, %d, %d) = %v, %v, want none", others, rows, index, got, ok)
	}
}

func TestMakeQuery(t *testing.T) {
	cases := []struct {
		rows, index int
		seeds       []int
		want        []string
	}{
		{6, 4, []int{10, 11}, []string{"101101", "101100", "000011"}},
		{4, 0, []int{7}, []string{"1100", "0100"}},
		{4, 3, []int{7}, []string{"1100", "1101"}},
		{1, 0, []int{5}, []string{"1", "0"}},
		// two selections of the same seed add up to nothing, and three of them to one
		{3, 1, []int{9, 9}, []string{"010", "010", "010"}},
		{12, 5, []int{3, 3, 3}, []string{"000110100001", "000110100001", "000110100001", "000111100001"}},
		{5, 2, []int{0, -1, impl.Modulus}, []string{"11100", "01100", "11100", "01000"}},
		{8, 7, []int{math.MinInt, math.MaxInt}, []string{"01101100", "00011110", "01110011"}},
		{16, 0, []int{impl.MaxValue, -impl.MaxValue}, []string{"1110101111111101", "0100000101101101", "0010101010010000"}},
		{64, 63, []int{77}, []string{"0101010101101101100011011111011000110110110101010001100010011110",
			"0101010101101101100011011111011000110110110101010001100010011111"}},
	}
	for _, c := range cases {
		var want [][]int
		for _, digits := range c.want {
			want = append(want, bits(digits))
		}
		checkQuery(t, c.rows, c.index, c.seeds, want)
	}
}

// Every selection of a query but the last is that of its seed, and together they select the row.
func TestMakeQueryAgainstReference(t *testing.T) {
	for rows := 1; rows <= impl.MaxRows; rows++ {
		for _, index := range someIndexes(rows) {
			for _, seeds := range someSeedLists {
				checkQuery(t, rows, index, seeds, referenceQuery(rows, index, seeds))
				query := impl.MakeQuery(rows, index, seeds)
				checkJoinedQuery(t, query, unit(rows, index))
				for i, seed := range seeds {
					if !slices.Equal(query[i], impl.RandomSelection(seed, rows)) {
						t.Errorf("selection %d of MakeQuery(%d, %d, %v) is %v", i, rows, index, seeds, query[i])
					}
				}
			}
		}
	}
	for index := range impl.MaxRows {
		checkJoinedQuery(t, impl.MakeQuery(64, index, []int{index, 5}), unit(64, index))
	}
}

func TestMakeQueryOutOfRange(t *testing.T) {
	for _, seeds := range append(slices.Clone(someSeedLists), badSeedLists()...) {
		for _, rows := range append([]int{0}, notRows...) {
			for _, index := range []int{0, 1, 63, -1, rows - 1, rows, math.MaxInt, math.MinInt} {
				rejectQuery(t, rows, index, seeds)
			}
		}
		for _, rows := range []int{1, 2, 6, 63, 64} {
			for _, index := range badOffsets(rows) {
				rejectQuery(t, rows, index, seeds)
			}
		}
	}
}

// A query has 2 to 4 selections, and 1 or 5 of them are none.
func TestMakeQueryCount(t *testing.T) {
	for count := range 10 {
		seeds := make([]int, count)
		for rows := 1; rows <= impl.MaxRows; rows++ {
			want := 0
			if count >= 1 && count <= 3 {
				want = count + 1
			}
			if got := impl.MakeQuery(rows, rows-1, seeds); len(got) != want {
				t.Errorf("MakeQuery of %d rows with %d seeds has %d selections, want %d", rows, count, len(got), want)
			}
		}
	}
	for _, seeds := range badSeedLists() {
		for _, rows := range []int{1, 6, 64} {
			rejectQuery(t, rows, 0, seeds)
		}
	}
}

func TestJoinQuery(t *testing.T) {
	cases := []struct {
		query [][]int
		want  []int
	}{
		{nil, nil},
		{[][]int{}, nil},
		// of one selection, that itself
		{[][]int{{1, 0, 1}}, []int{1, 0, 1}},
		{[][]int{{0}}, []int{0}},
		{[][]int{{0, 0, 0}}, []int{0, 0, 0}},
		{[][]int{{1, 1}, {0, 1}}, []int{1, 0}},
		{[][]int{{1}, {1}}, []int{0}},
		{[][]int{{1}, {1}, {1}}, []int{1}},
		{[][]int{{1, 0}, {1, 1}, {0, 1}}, []int{0, 0}},
		{[][]int{{0, 0, 1, 1}, {0, 1, 0, 1}, {1, 1, 1, 1}}, []int{1, 0, 0, 1}},
		// more selections than there are servers
		{[][]int{{1}, {1}, {1}, {1}, {1}}, []int{1}},
		{slices.Repeat([][]int{{0, 1}}, 256), []int{0, 0}},
		{slices.Repeat([][]int{{0, 1}}, 257), []int{0, 1}},
		// selections of no rows
		{[][]int{nil}, nil},
		{[][]int{{}}, nil},
		{[][]int{{}, nil}, nil},
		{[][]int{nil, {}, nil}, nil},
		// some empty and some not
		{[][]int{{}, {1}}, nil},
		{[][]int{{1}, {}}, nil},
		{[][]int{{1}, nil}, nil},
		{[][]int{nil, {1}}, nil},
		{[][]int{{1}, {}, {1}}, nil},
		{[][]int{{}, {1}, {}}, nil},
		{[][]int{{}, {0}}, nil},
		{[][]int{{0}, {}}, nil},
		{[][]int{{}, {}, {0, 1}}, nil},
		{[][]int{{}, {0, 1}, {0, 1}}, nil},
		// other lengths, also where the missing elements could count as 0
		{[][]int{{1, 0}, {1}}, nil},
		{[][]int{{1}, {1, 0}}, nil},
		{[][]int{{1, 0}, {1, 0}, {1}}, nil},
		{[][]int{{1, 0}, {1, 0}, {1, 0, 0}}, nil},
		{[][]int{{1, 0}, {0, 1}, {1, 1}, {1, 1, 1}}, nil},
		{[][]int{{1}, {1, 0}, {1}}, nil},
		{[][]int{{1}, {1, 0}, {1, 0}}, nil},
		// vectors that are no selections, also alone, and where the sum would be one
		{[][]int{{2}}, nil},
		{[][]int{{-1}}, nil},
		{[][]int{{0, 2}}, nil},
		{[][]int{{2}, {2}}, nil},
		{[][]int{{2}, {-1}}, nil},
		{[][]int{{0}, {2}}, nil},
		{[][]int{{2}, {0}}, nil},
		{[][]int{{1, 0}, {1, 3}, {0, -3}}, nil},
		{[][]int{{3}, {}, {3}}, nil},
		{[][]int{make([]int, 65)}, nil},
		{[][]int{make([]int, 65), make([]int, 65)}, nil},
		{[][]int{make([]int, 64)}, make([]int, 64)},
		{[][]int{make([]int, 64), make([]int, 65)}, nil},
		{[][]int{make([]int, 65), make([]int, 64)}, nil},
		{[][]int{make([]int, 64), slices.Repeat([]int{1}, 64)}, slices.Repeat([]int{1}, 64)},
	}
	for _, c := range cases {
		checkJoinedQuery(t, c.query, c.want)
	}
}

func TestJoinQueryAgainstReference(t *testing.T) {
	for rows := range 4 {
		for _, a := range everySelection(rows) {
			checkJoinedQuery(t, [][]int{a}, a)
			for _, b := range everySelection(rows) {
				checkJoinedQuery(t, [][]int{a, b}, referenceParity(a, b))
				for _, c := range everySelection(rows) {
					checkJoinedQuery(t, [][]int{a, b, c}, referenceParity(a, b, c))
				}
			}
		}
	}
	for rows := range 65 {
		for _, count := range []int{1, 2, 3, 4, 5, 6, 17, 300} {
			query := selections(count, rows, rows)
			checkJoinedQuery(t, query, referenceParity(query...))
		}
	}
}

// One selection of another table spoils the query at every place.
func TestJoinQueryOfOtherTables(t *testing.T) {
	for _, rows := range []int{0, 1, 2, 6, 63, 64} {
		for _, bad := range otherTables(rows) {
			for count := 2; count <= 5; count++ {
				for place := range count {
					query := selections(count, rows, 3)
					query[place] = bad
					checkJoinedQuery(t, query, nil)
				}
			}
			// alone, or several times, it is no query either unless it is a selection of its own rows
			for _, count := range []int{1, 2, 3} {
				var want []int
				if len(bad) <= 64 && !slices.ContainsFunc(bad, func(n int) bool { return n != 0 && n != 1 }) {
					want = referenceParity(slices.Repeat([][]int{bad}, count)...)
				}
				checkJoinedQuery(t, slices.Repeat([][]int{bad}, count), want)
			}
		}
	}
	for _, rows := range []int{65, 66, 128, 256, 257} {
		for count := 1; count <= 5; count++ {
			checkJoinedQuery(t, selections(count, rows, 1), nil)
		}
	}
}

func TestAnswerQuery(t *testing.T) {
	zero, ones := make([]byte, 24), bytes.Repeat([]byte{255}, 24)
	a, b, c := mixed(24, 1), mixed(24, 2), mixed(24, 3)
	cases := []struct {
		rows      [][]byte
		selection []int
		want      []byte
	}{
		{[][]byte{a, b, c}, []int{0, 1, 0}, b},
		{[][]byte{a, b, c}, []int{0, 0, 1}, c},
		{[][]byte{a, b, c}, []int{1, 1, 0}, referenceXor(a, b)},
		{[][]byte{a, b, c}, []int{1, 1, 1}, referenceXor(a, b, c)},
		{[][]byte{a, ones}, []int{1, 1}, referenceXor(a, ones)},
		{[][]byte{a, a}, []int{1, 1}, zero},
		// where nothing is selected the answer is a zero cell
		{[][]byte{a, b, c}, []int{0, 0, 0}, zero},
		{[][]byte{a}, []int{0}, zero},
		{[][]byte{zero}, []int{1}, zero},
		// a database without rows has one selection
		{nil, nil, zero},
		{nil, []int{}, zero},
		{[][]byte{}, []int{}, zero},
		{nil, []int{0}, nil},
		{nil, []int{1}, nil},
		// selections of other tables
		{[][]byte{a, b, c}, nil, nil},
		{[][]byte{a, b, c}, []int{}, nil},
		{[][]byte{a, b, c}, []int{0, 1}, nil},
		{[][]byte{a, b, c}, []int{0, 0}, nil},
		{[][]byte{a, b, c}, []int{0, 1, 0, 0}, nil},
		{[][]byte{a, b, c}, []int{0, 1, 2}, nil},
		{[][]byte{a, b, c}, []int{-1, 1, 0}, nil},
		{[][]byte{a}, []int{3}, nil},
		// rows of another size, selected or not
		{[][]byte{a, a[:23]}, []int{1, 0}, nil},
		{[][]byte{a, a[:23]}, []int{0, 1}, nil},
		{[][]byte{nil}, []int{0}, nil},
		{[][]byte{nil, a}, []int{0, 1}, nil},
		{[][]byte{mixed(25, 1)}, []int{1}, nil},
	}
	for _, c := range cases {
		checkAnswer(t, c.rows, c.selection, c.want)
	}
}

func TestAnswerQueryAgainstReference(t *testing.T) {
	for _, rows := range goodRows() {
		for _, v := range append(patterns(len(rows)), selections(5, len(rows), 2)...) {
			checkAnswer(t, rows, v, referenceAnswer(rows, v))
		}
	}
	for count := range 65 {
		rows := cells(count, count)
		for i, row := range rows {
			checkAnswer(t, rows, unit(count, i), row)
		}
		checkAnswer(t, rows, make([]int, count), make([]byte, 24))
		checkAnswer(t, rows, slices.Repeat([]int{1}, count), referenceAnswer(rows, slices.Repeat([]int{1}, count)))
	}
}

// An invalid database gives no answer, whatever the selection is.
func TestAnswerQueryOfInvalidDatabases(t *testing.T) {
	for _, rows := range slices.Concat(spoiledRows(), tooManyRows()) {
		count := len(rows)
		for _, v := range [][]int{make([]int, count), slices.Repeat([]int{1}, count), unit(count, 0), unit(count, count-1),
			unit(count, count/2), nil, {1}, make([]int, 64), slices.Repeat([]int{1}, 64)} {
			checkAnswer(t, rows, v, nil)
		}
	}
}

// A selection of another table gives no answer.
func TestAnswerQueryOfOtherTables(t *testing.T) {
	for _, rows := range append(goodRows(), cells(8, 8), cells(65, 1)) {
		for _, v := range otherTables(len(rows)) {
			checkAnswer(t, rows, v, nil)
		}
	}
	for first := range 67 {
		for second := range 67 {
			if first != second || first > 64 {
				checkAnswer(t, cells(first, 1), make([]int, second), nil)
				checkAnswer(t, cells(first, 1), slices.Repeat([]int{1}, second), nil)
			}
		}
	}
}

func TestCombineAnswers(t *testing.T) {
	for count := range 10 {
		for _, answers := range [][][]byte{cells(count, 5), make([][]byte, 0, 9), slices.Repeat([][]byte{make([]byte, 24)}, count),
			slices.Repeat([][]byte{mixed(24, 9)}, count), slices.Repeat([][]byte{bytes.Repeat([]byte{255}, 24)}, count)} {
			if len(answers) < 2 || len(answers) > 4 {
				rejectCombined(t, answers)
			} else {
				checkCombined(t, answers, referenceXor(answers...))
			}
		}
	}
	for _, count := range []int{16, 255, 256, 257, 258, 259, 260, 1000} {
		rejectCombined(t, cells(count, 1))
	}
	rejectCombined(t, nil)
	checkCombined(t, [][]byte{mixed(24, 1), make([]byte, 24)}, mixed(24, 1))
	checkCombined(t, [][]byte{mixed(24, 1), mixed(24, 2), mixed(24, 2)}, mixed(24, 1))
}

// One answer of another size at every place, several of them, or all of them of the same other size.
func TestCombineAnswersOfOtherSizes(t *testing.T) {
	for _, bad := range notCells() {
		for count := 1; count <= 5; count++ {
			for place := range count {
				rejectCombined(t, replaced(cells(count, 1), place, bad))
				rejectCombined(t, replaced(slices.Repeat([][]byte{bad}, count), place, mixed(24, 1)))
			}
			rejectCombined(t, slices.Repeat([][]byte{bad}, count))
		}
	}
	// as many bytes as two cells have together
	rejectCombined(t, [][]byte{mixed(23, 1), mixed(25, 2)})
	rejectCombined(t, [][]byte{mixed(25, 1), mixed(23, 2)})
	rejectCombined(t, [][]byte{mixed(48, 1), nil})
	rejectCombined(t, [][]byte{mixed(24, 1), mixed(25, 2), mixed(23, 3)})
}

// Every row is read with every number of servers, and it is what the answers to the query are together.
func TestReadPrivately(t *testing.T) {
	for _, rows := range goodRows() {
		d := database(rows...)
		for index, row := range rows {
			for _, seeds := range someSeedLists {
				checkRead(t, rows, index, seeds)
				var answers [][]byte
				for _, selection := range impl.MakeQuery(len(rows), index, seeds) {
					answers = append(answers, impl.AnswerQuery(d, selection))
				}
				checkCombined(t, answers, row)
			}
		}
	}
	for count := 1; count <= impl.MaxRows; count++ {
		for index := range count {
			for _, seeds := range [][]int{{index}, {count, index}, {index, 7, count}} {
				checkRead(t, cells(count, count), index, seeds)
			}
		}
	}
}

func TestReadPrivatelyRejects(t *testing.T) {
	for _, rows := range goodRows() {
		for _, seeds := range badSeedLists() {
			for _, index := range append(someIndexes(len(rows)), -1, len(rows)) {
				rejectRead(t, rows, index, seeds)
			}
		}
		for _, seeds := range someSeedLists {
			for _, index := range badOffsets(len(rows)) {
				rejectRead(t, rows, index, seeds)
			}
		}
	}
	for _, index := range []int{0, 1, -1, math.MaxInt, math.MinInt} {
		rejectRead(t, nil, index, []int{1, 2})
		rejectRead(t, nil, index, nil)
	}
}

// Nothing is read from an invalid database, not even a row that has the right size.
func TestReadPrivatelyOfInvalidDatabases(t *testing.T) {
	for _, rows := range slices.Concat(spoiledRows(), tooManyRows()) {
		for _, index := range append(someIndexes(len(rows)), -1, len(rows), math.MaxInt, math.MinInt) {
			for _, seeds := range [][]int{nil, {7}, {7, 8}, {7, 7}, {7, 8, 9}, {1, 2, 3, 4}} {
				rejectRead(t, rows, index, seeds)
			}
		}
	}
}

func TestExplainSelections(t *testing.T) {
	cases := []struct {
		others      [][]int
		rows, index int
		want        []int
	}{
		// without others, and beside zeros, only the row itself is left
		{nil, 3, 1, []int{0, 1, 0}},
		{[][]int{}, 3, 2, []int{0, 0, 1}},
		{nil, 1, 0, []int{1}},
		{nil, 64, 63, unit(64, 63)},
		{[][]int{{0, 0, 0}}, 3, 0, []int{1, 0, 0}},
		{[][]int{{1, 0, 1}}, 3, 0, []int{0, 0, 1}},
		{[][]int{{1, 0, 1}}, 3, 1, []int{1, 1, 1}},
		{[][]int{{1, 0, 1}}, 3, 2, []int{1, 0, 0}},
		{[][]int{{0, 1, 0}}, 3, 1, []int{0, 0, 0}},
		{[][]int{{1, 1}, {0, 1}}, 2, 0, []int{0, 0}},
		{[][]int{{1, 1}, {0, 1}}, 2, 1, []int{1, 1}},
		{[][]int{{1}, {1}, {1}}, 1, 0, []int{0}},
		// more of them than there are servers
		{[][]int{{1}, {1}, {1}, {1}}, 1, 0, []int{1}},
		{[][]int{{1}, {1}, {1}, {1}, {1}}, 1, 0, []int{0}},
		{slices.Repeat([][]int{{1, 0, 1}}, 257), 3, 2, []int{1, 0, 0}},
	}
	for _, c := range cases {
		checkExplained(t, c.others, c.rows, c.index, c.want)
	}
	for rows := 1; rows <= impl.MaxRows; rows++ {
		for _, index := range someIndexes(rows) {
			for _, count := range []int{0, 1, 2, 3, 4, 5, 6, 17, 300} {
				others := selections(count, rows, index)
				checkExplained(t, others, rows, index, referenceParity(append(slices.Clone(others), unit(rows, index))...))
			}
		}
	}
}

// Without one selection, whichever it is, the others fit the query for every other row as well.
func TestAllSelectionsButOneRevealNothing(t *testing.T) {
	for _, count := range []int{1, 2, 3, 6, 63, 64} {
		rows := cells(count, count)
		for _, index := range someIndexes(count) {
			for _, seeds := range someSeedLists {
				query := impl.MakeQuery(count, index, seeds)
				for left, selection := range query {
					others := without(query, left)
					for other := range count {
						made, ok := impl.ExplainSelections(others, count, other)
						if !ok || slices.Equal(made, selection) != (other == index) {
							t.Fatalf("ExplainSelections(%v, %d, %d) = %v, %v beside the query %v", others, count, other, made, ok, query)
						}
						whole := slices.Insert(slices.Clone(others), left, made)
						checkJoinedQuery(t, whole, unit(count, other))
						if left == other%len(query) {
							checkAnswered(t, rows, whole, rows[other])
						}
					}
				}
			}
		}
	}
}

// checkAnswered reports an error if the answers to the selections of a query are not the wanted row together.
func checkAnswered(t *testing.T, rows [][]byte, query [][]int, want []byte) {
	t.Helper()
	var answers [][]byte
	for _, selection := range query {
		answers = append(answers, impl.AnswerQuery(database(rows...), selection))
	}
	checkCombined(t, answers, want)
}

// What the seeds give is the same for every row that is read; only the last selection depends on the row.
func TestSelectionsFromSeedsIgnoreTheRow(t *testing.T) {
	for _, rows := range []int{1, 2, 6, 64} {
		for _, seeds := range someSeedLists {
			first, last := impl.MakeQuery(rows, 0, seeds), len(seeds)
			for index := range rows {
				query := impl.MakeQuery(rows, index, seeds)
				if !sameList(query[:last], first[:last]) {
					t.Errorf("the selections of %d rows for the seeds %v depend on the row %d", rows, seeds, index)
				}
				if want := referenceParity(first[last], unit(rows, 0), unit(rows, index)); !slices.Equal(query[last], want) {
					t.Errorf("the last selection for row %d of %d with %v is %v, want %v", index, rows, seeds, query[last], want)
				}
			}
		}
	}
}

// Any single selection may be every selection of its rows, whatever row is read, and the last one too.
func TestSingleSelectionTakesEveryValue(t *testing.T) {
	const rows = 4
	for index := range rows {
		for servers := 2; servers <= 4; servers++ {
			seen := make([]map[string]bool, servers)
			for i := range seen {
				seen[i] = map[string]bool{}
			}
			for first := range 400 {
				for i, selection := range impl.MakeQuery(rows, index, []int{first, first + 100000, first + 200000}[:servers-1]) {
					seen[i][string(impl.PackSelection(selection))] = true
				}
			}
			for i := range seen {
				if len(seen[i]) != 1<<rows {
					t.Errorf("selection %d of %d for row %d takes only %d values", i, servers, index, len(seen[i]))
				}
			}
		}
	}
}

func TestExplainSelectionsOutOfRange(t *testing.T) {
	for _, rows := range append([]int{0}, notRows...) {
		for _, index := range []int{0, 1, 63, -1, rows - 1, rows, math.MaxInt, math.MinInt} {
			for _, others := range [][][]int{nil, {nil}, {{}, {}}, {{0}}, {{1}, {0}}, {make([]int, 64)}, {make([]int, 65)}} {
				rejectExplained(t, others, rows, index)
			}
			if rows > 0 && rows < 1000 {
				rejectExplained(t, selections(2, rows, 1), rows, index)
			}
		}
	}
	for _, rows := range []int{1, 2, 6, 63, 64} {
		for _, index := range badOffsets(rows) {
			for count := range 6 {
				rejectExplained(t, selections(count, rows, 1), rows, index)
			}
		}
	}
}

// One selection of another table cannot be explained at any place, nor can several of them.
func TestExplainSelectionsOfOtherTables(t *testing.T) {
	for _, rows := range []int{1, 2, 6, 63, 64} {
		for _, bad := range otherTables(rows) {
			for _, index := range slices.Compact([]int{0, rows / 2, rows - 1}) {
				for count := 1; count <= 5; count++ {
					for place := range count {
						others := selections(count, rows, 3)
						others[place] = bad
						rejectExplained(t, others, rows, index)
					}
					rejectExplained(t, slices.Repeat([][]int{bad}, count), rows, index)
				}
			}
		}
	}
}

// queryLists lists queries and others that are not, for tests of all functions that take selections.
func queryLists() [][][]int {
	lists := [][][]int{nil, {}, {nil}, {{}}, {nil, {}}, {{1}}, {{1, 0}}, {{1, 0}, {1, 1}}, {{1, 0}, {1}}, {{}, {1, 0}}, {{2, 0}},
		{{1, 0}, {0, -1}},
		{{1, 1, 1}, {1, 0, 0}}, {{1, 1, 1}, {1, 0, 0}, {0, 1, 0}}, {{1, 1, 1}, {1, 0, 0}, {0, 1}}, {{1, 1, 1}, {1, 0, 2}},
		selections(5, 3, 1), selections(300, 3, 1), selections(3, 64, 1), selections(3, 65, 1)}
	for _, seeds := range someSeedLists {
		lists = append(lists, impl.MakeQuery(3, 1, seeds), impl.MakeQuery(64, 5, seeds))
	}
	return lists
}

func TestMakeQueryCopies(t *testing.T) {
	for _, content := range append(append([][]int{{}}, someSeedLists...), badSeedLists()...) {
		for _, rows := range []int{-1, 0, 1, 3, 64, 65} {
			for _, index := range []int{0, rows - 1, rows} {
				seeds, unchanged := roomy(content)
				got := impl.MakeQuery(rows, index, seeds)
				// the integers behind the seeds are none of them
				if !sameList(got, impl.MakeQuery(rows, index, content)) {
					t.Errorf("MakeQuery(%d, %d, %v) with spare capacity = %v", rows, index, content, got)
				}
				checkFreshList(t, "MakeQuery", got, unchanged)
			}
		}
	}
}

func TestJoinAndExplainCopy(t *testing.T) {
	for _, content := range queryLists() {
		query, unchanged := roomyList(content)
		got := impl.JoinQuery(query)
		if !slices.Equal(got, impl.JoinQuery(content)) {
			t.Errorf("JoinQuery(%v) with spare capacity = %v", content, got)
		}
		checkFresh(t, "JoinQuery", got, unchanged)
		for _, rows := range []int{-1, 0, 1, 2, 3, 64, 65} {
			for _, index := range []int{0, rows - 1, rows} {
				others, unchanged := roomyList(content)
				got, ok := impl.ExplainSelections(others, rows, index)
				want, wantOk := impl.ExplainSelections(content, rows, index)
				if ok != wantOk || !slices.Equal(got, want) {
					t.Errorf("ExplainSelections(%v, %d, %d) with spare capacity = %v, %v", content, rows, index, got, ok)
				}
				checkFresh(t, "ExplainSelections", got, unchanged)
			}
		}
	}
}

func TestAnswerQueryCopies(t *testing.T) {
	for _, content := range rowsToCopy() {
		count := len(content)
		vectors := append(selections(2, count, 1), make([]int, count), slices.Repeat([]int{1}, count), []int{2}, make([]int, count+1))
		for _, selected := range vectors {
			rows, unchangedRows := roomyList(content)
			selection, unchangedSelection := roomy(selected)
			got := impl.AnswerQuery(impl.Database{Rows: rows}, selection)
			// neither the rows behind the database nor the elements behind the selection take part
			if !bytes.Equal(got, impl.AnswerQuery(database(content...), selected)) {
				t.Errorf("AnswerQuery of %d rows with %v and spare capacity = %v", count, selected, got)
			}
			checkFresh(t, "AnswerQuery", got, func() bool { return unchangedRows() && unchangedSelection() })
		}
	}
}

// A single row, or a single answer beside zeros, is what comes back, but as a copy.
func TestCombineAnswersCopies(t *testing.T) {
	zero := make([]byte, 24)
	lists := [][][]byte{nil, {}, {nil}, {nil, {}}, {mixed(24, 1), zero}, {zero, mixed(24, 1)}, {zero, zero, mixed(24, 1)}, {mixed(24, 1)},
		{mixed(24, 1), mixed(23, 1)}, {mixed(23, 1), mixed(23, 2)}}
	for count := range 7 {
		lists = append(lists, cells(count, 1))
	}
	for _, content := range lists {
		answers, unchanged := roomyList(content)
		got, ok := impl.CombineAnswers(answers)
		want, wantOk := impl.CombineAnswers(content)
		if ok != wantOk || !bytes.Equal(got, want) {
			t.Errorf("CombineAnswers(%v) with spare capacity = %v, %v", content, got, ok)
		}
		checkFresh(t, "CombineAnswers", got, unchanged)
	}
}

func TestReadPrivatelyCopies(t *testing.T) {
	for _, content := range rowsToCopy() {
		for _, index := range append(someIndexes(len(content)), -1, len(content)) {
			for _, list := range [][]int{nil, {7}, {7, 8}, {7, 7}, {7, 8, 9}, {7, 8, 9, 10}} {
				rows, unchangedRows := roomyList(content)
				seeds, unchangedSeeds := roomy(list)
				got, ok := impl.ReadPrivately(impl.Database{Rows: rows}, index, seeds)
				want, wantOk := impl.ReadPrivately(database(content...), index, list)
				if ok != wantOk || !bytes.Equal(got, want) {
					t.Errorf("ReadPrivately of row %d of %d with %v and spare capacity = %v, %v", index, len(content), list, got, ok)
				}
				checkFresh(t, "ReadPrivately", got, func() bool { return unchangedRows() && unchangedSeeds() })
			}
		}
	}
}

// The same memory may be several selections, or parts of it may be.
func TestSelectionsOfOneMemory(t *testing.T) {
	same, unchanged := roomy([]int{1, 0, 1, 1})
	checkJoinedQuery(t, [][]int{same, same}, []int{0, 0, 0, 0})
	checkJoinedQuery(t, [][]int{same, same, same}, []int{1, 0, 1, 1})
	checkJoinedQuery(t, [][]int{same[:2], same[1:3], same[2:]}, []int{0, 0})
	checkExplained(t, [][]int{same, same}, 4, 3, []int{0, 0, 0, 1})
	checkExplained(t, [][]int{same[:3], same[1:], same[:3]}, 3, 0, []int{1, 1, 1})
	for _, query := range [][][]int{{same}, {same, same}, {same, same, same}, {same[:2], same[2:]}, {same, same[:3]}} {
		checkFresh(t, "JoinQuery of parts of one slice", impl.JoinQuery(query), unchanged)
		for rows := range 6 {
			got, _ := impl.ExplainSelections(query, rows, 0)
			checkFresh(t, "ExplainSelections of parts of one slice", got, unchanged)
		}
	}
	// the selections of equal seeds are equal, but two slices
	checkFreshList(t, "MakeQuery with equal seeds", impl.MakeQuery(6, 2, []int{9, 9, 9}), unchanged)
}

// The same memory may be several rows of a database, or several answers.
func TestAnswersOfOneMemory(t *testing.T) {
	same, unchanged := roomy(mixed(60, 1))
	checkCombined(t, [][]byte{same[:24], same[:24]}, make([]byte, 24))
	checkCombined(t, [][]byte{same[:24], same[:24], same[:24]}, mixed(60, 1)[:24])
	checkCombined(t, [][]byte{same[:24], same[24:48]}, referenceXor(mixed(60, 1)[:24], mixed(60, 1)[24:48]))
	lists := [][][]byte{{same[:24], same[:24]}, {same[:24], same[:24], same[:24]}, {same[:24], same[1:25]}, {same[:24]}, {same, same}}
	for _, answers := range lists {
		got, _ := impl.CombineAnswers(answers)
		checkFresh(t, "CombineAnswers of parts of one slice", got, unchanged)
	}
	rows := [][]byte{same[:24], same[:24], same[10:34], same[36:]}
	for index := range rows {
		checkRead(t, rows, index, []int{3, 4})
		checkAnswer(t, rows, unit(4, index), slices.Clone(rows[index]))
		checkFresh(t, "AnswerQuery of rows of one memory", impl.AnswerQuery(database(rows...), unit(4, index)), unchanged)
		got, _ := impl.ReadPrivately(database(rows...), index, []int{3, 4})
		checkFresh(t, "ReadPrivately of rows of one memory", got, unchanged)
	}
	checkAnswer(t, rows, []int{1, 1, 0, 0}, make([]byte, 24))
}

// What is written to is not what a later call returns.
func TestReadingIsFresh(t *testing.T) {
	queries := []func() [][]int{
		func() [][]int { return impl.MakeQuery(6, 4, []int{10, 11}) },
		func() [][]int { return impl.MakeQuery(6, 4, []int{10, 10, 10}) },
		func() [][]int { return impl.MakeQuery(6, 6, []int{10}) },
		func() [][]int { return impl.MakeQuery(6, 4, nil) },
	}
	for i, query := range queries {
		before := query()
		checkFreshList(t, "MakeQuery", query(), func() bool { return sameList(query(), before) })
		if got := query(); !sameList(got, before) {
			t.Errorf("query %d is %v after an earlier one was written to, want %v", i, got, before)
		}
	}
	d, query := database(cells(3, 1)...), [][]int{{1, 0, 1}, {0, 0, 1}}
	checkAgain(t, "JoinQuery", func() []int { return impl.JoinQuery(query) })
	checkAgain(t, "JoinQuery", func() []int { return impl.JoinQuery(query[:1]) })
	checkAgain(t, "JoinQuery", func() []int { return impl.JoinQuery(nil) })
	checkAgain(t, "AnswerQuery", func() []byte { return impl.AnswerQuery(d, query[0]) })
	checkAgain(t, "AnswerQuery", func() []byte { return impl.AnswerQuery(d, query[1]) })
	checkAgain(t, "AnswerQuery", func() []byte { return impl.AnswerQuery(d, []int{0, 0, 0}) })
	checkAgain(t, "AnswerQuery", func() []byte { return impl.AnswerQuery(impl.Database{}, nil) })
	checkAgain(t, "AnswerQuery", func() []byte { return impl.AnswerQuery(d, nil) })
	checkAgain(t, "CombineAnswers", func() []byte { b, _ := impl.CombineAnswers(d.Rows); return b })
	checkAgain(t, "CombineAnswers", func() []byte { b, _ := impl.CombineAnswers(nil); return b })
	checkAgain(t, "ReadPrivately", func() []byte { b, _ := impl.ReadPrivately(d, 1, []int{5}); return b })
	checkAgain(t, "ReadPrivately", func() []byte { b, _ := impl.ReadPrivately(d, 3, []int{5}); return b })
	checkAgain(t, "ExplainSelections", func() []int { v, _ := impl.ExplainSelections(query, 3, 1); return v })
	checkAgain(t, "ExplainSelections", func() []int { v, _ := impl.ExplainSelections(nil, 3, 1); return v })
	checkAgain(t, "ExplainSelections", func() []int { v, _ := impl.ExplainSelections(query, 2, 1); return v })
	if !sameList(d.Rows, cells(3, 1)) || !sameList(query, [][]int{{1, 0, 1}, {0, 0, 1}}) {
		t.Errorf("the arguments became %v and %v", d, query)
	}
}
