package tests

import (
	"fmt"
	"math"
	"slices"
	"sync"
	"testing"

	"loop.example/g01194/impl"
)

const manyRows = 18 * 18 * 18 * 18

// slid is what a slide makes of a row.
type slid struct {
	row     [4]int
	score   int
	mergers int
}

// rowOf reads a row from its text without the functions that are tested.
func rowOf(text string) [4]int { return boardOf(text).Rows[0] }

func rowsOf(texts ...string) [][4]int {
	rows := [][4]int{}
	for _, text := range texts {
		rows = append(rows, rowOf(text))
	}
	return rows
}

// placeOf returns the number with which rowWith returns a row.
func placeOf(row [4]int) int { return row[0]*5832 + row[1]*324 + row[2]*18 + row[3] }

func plainRow(row [4]int, direction int) slid {
	b, score, mergers := plainSlide(impl.Board{Rows: [4][4]int{row}}, direction)
	return slid{b.Rows[0], score, mergers}
}

// toFirst and toLast hold, by the numbers of rowWith, what each row slides to.
var (
	toFirst = sync.OnceValue(func() []slid { return slidRows(left) })
	toLast  = sync.OnceValue(func() []slid { return slidRows(right) })
)

func slidRows(direction int) []slid {
	all := make([]slid, manyRows)
	for number := range all {
		all[number] = plainRow(rowWith(number), direction)
	}
	return all
}

// rowsInto holds for each image the rows that slide to it, in ascending order.
var rowsInto = sync.OnceValue(func() map[[4]int][][4]int {
	into := map[[4]int][][4]int{}
	for number, done := range toFirst() {
		into[done.row] = append(into[done.row], rowWith(number))
	}
	return into
})

// plainTiles returns the tiles of a row in order.
func plainTiles(row [4]int) []int {
	return slices.DeleteFunc(slices.Clone(row[:]), func(t int) bool { return t == 0 })
}

// plainFlush reports whether all tiles come before all zeros.
func plainFlush(row [4]int) bool {
	tiles := plainTiles(row)
	return slices.Equal(row[:len(tiles)], tiles)
}

// wrongRows returns rows that have a wrong number in one place, or in all places.
func wrongRows() [][4]int {
	rows := [][4]int{}
	for _, n := range wrongNumbers() {
		for _, row := range rowsOf("....", "aaaa", "abcd", "qqqq", "b...") {
			for i := range 4 {
				wrong := row
				wrong[i] = n
				rows = append(rows, wrong)
			}
		}
		rows = append(rows, [4]int{n, n, n, n}, [4]int{n, n, 0, 0})
	}
	// Their digits would make a number that a row has.
	return append(rows, [4]int{0, 0, 1, -1}, [4]int{0, 0, 0, 36}, [4]int{1, -1, 0, 0}, [4]int{0, 0, 18, 0})
}

func TestIsRow(t *testing.T) {
	for number := range manyRows {
		if row := rowWith(number); !impl.IsRow(row) {
			t.Errorf("IsRow(%v) is false", row)
		}
	}
	for _, row := range wrongRows() {
		if impl.IsRow(row) {
			t.Errorf("IsRow(%v) is true", row)
		}
	}
}

func TestSlideRow(t *testing.T) {
	for _, c := range []struct {
		row, want string
		score     int
		pairs     int
	}{
		{"....", "....", 0, 0}, {"a...", "a...", 0, 0}, {"...a", "a...", 0, 0}, {"a..b", "ab..", 0, 0},
		{"aaaa", "bb..", 8, 2}, {"aaa.", "ba..", 4, 1}, {".aaa", "ba..", 4, 1}, {"a.aa", "ba..", 4, 1},
		{"aab.", "bb..", 4, 1}, {"baa.", "bb..", 4, 1}, {"aabb", "bc..", 12, 2}, {"a..a", "b...", 4, 1},
		{"abab", "abab", 0, 0}, {"abcd", "abcd", 0, 0}, {"baaa", "bba.", 4, 1}, {"aaab", "bab.", 4, 1},
		{"qqqq", "qqqq", 0, 0}, {".q.q", "qq..", 0, 0}, {".qqq", "qqq.", 0, 0}, {"pppp", "qq..", 2 * worth(17), 2},
		{"ppqq", "qqq.", worth(17), 1}, {"qpp.", "qq..", worth(17), 1}, {"ppp.", "qp..", worth(17), 1},
	} {
		row, score, ok := impl.SlideRow(rowOf(c.row))
		if !ok || row != rowOf(c.want) || score != c.score {
			t.Errorf("SlideRow %s = %v, %d, %v", c.row, row, score, ok)
		}
		if pairs, ok := impl.RowPairs(rowOf(c.row)); !ok || pairs != c.pairs {
			t.Errorf("RowPairs %s = %d, %v", c.row, pairs, ok)
		}
	}
}

func TestSlideRowAndRowPairsOfEachRow(t *testing.T) {
	for number, want := range toFirst() {
		row := rowWith(number)
		next, score, ok := impl.SlideRow(row)
		pairs, fine := impl.RowPairs(row)
		if !ok || !fine || (slid{next, score, pairs}) != want {
			t.Errorf("%v: %v, %d, %v, %d, %v, not %v", row, next, score, ok, pairs, fine, want)
		}
	}
}

func TestSlideRowIsTheSlideOfARowOfABoard(t *testing.T) {
	for _, b := range sampleBoards() {
		board, score, _ := impl.SlideBoard(b, left)
		mergers, _ := impl.MergersOf(b, left)
		sum, pairs := 0, 0
		for r := range 4 {
			row, one, ok := impl.SlideRow(b.Rows[r])
			many, fine := impl.RowPairs(b.Rows[r])
			if !ok || !fine || row != board.Rows[r] {
				t.Errorf("%v: %v, %v, %v, not %v", b.Rows[r], row, ok, fine, board.Rows[r])
			}
			sum += one
			pairs += many
		}
		if sum != score || pairs != mergers {
			t.Errorf("%v: %d and %d, not %d and %d", b, sum, pairs, score, mergers)
		}
	}
}

func TestIsFlush(t *testing.T) {
	for _, text := range []string{"....", "a...", "ab..", "ba..", "aaa.", "aaaa", "q...", "qqqq", "abcd"} {
		if is, ok := impl.IsFlush(rowOf(text)); !ok || !is {
			t.Errorf("IsFlush %s = %v, %v", text, is, ok)
		}
	}
	for _, text := range []string{"...a", ".a..", "a.a.", "a..q", "aa.a", ".aaa", "..aa", "q.q."} {
		if is, ok := impl.IsFlush(rowOf(text)); !ok || is {
			t.Errorf("IsFlush %s = %v, %v", text, is, ok)
		}
	}
	for number := range manyRows {
		row := rowWith(number)
		if is, ok := impl.IsFlush(row); !ok || is != plainFlush(row) {
			t.Errorf("IsFlush(%v) = %v, %v", row, is, ok)
		}
	}
}

// Promise 4, its first part.
func TestRowsBeforeAreJustThoseThatSlideToIt(t *testing.T) {
	all := 0
	for number := range manyRows {
		row := rowWith(number)
		rows, ok := impl.RowsBefore(row)
		if !ok || !slices.Equal(rows, rowsInto()[row]) || len(rows) > impl.MaxBefore {
			t.Errorf("RowsBefore(%v) = %v, %v, not %v", row, rows, ok, rowsInto()[row])
		}
		all += len(rows)
	}
	if all != manyRows {
		t.Errorf("%d rows are before others, and there are %d", all, manyRows)
	}
}

// Promise 4, its second part.
func TestImagesAreFlush(t *testing.T) {
	for number := range manyRows {
		row := rowWith(number)
		image, ok := impl.IsImage(row)
		flush, fine := impl.IsFlush(row)
		if !ok || !fine || image != (len(rowsInto()[row]) > 0) || (image && !flush) {
			t.Errorf("%v: %v, %v, %v, %v", row, image, ok, flush, fine)
		}
	}
}

func TestRowsBefore(t *testing.T) {
	for text, want := range map[string][]string{
		"....": {"...."},
		"a...": {"...a", "..a.", ".a..", "a..."},
		"b...": {"...b", "..aa", "..b.", ".a.a", ".aa.", ".b..", "a..a", "a.a.", "aa..", "b..."},
		"q...": {"...q", "..pp", "..q.", ".p.p", ".pp.", ".q..", "p..p", "p.p.", "pp..", "q..."},
		"ba..": {".aaa", ".ba.", "..ba", ".b.a", "a.aa", "aa.a", "aaa.", "b..a", "b.a.", "ba.."},
		"ab..": {"..ab", ".a.b", ".ab.", "a..b", "a.b.", "ab.."},
		"bb..": {".aab", ".baa", "a.ab", "aa.b", "aaaa", "aab.", "b.aa", "ba.a", "baa."},
		"qq..": {".ppq", ".qpp", "..qq", ".q.q", ".qq.", "p.pq", "pp.q", "pppp", "ppq.", "q..q", "q.pp", "q.q.", "qp.p", "qpp.", "qq.."},
		"bba.": {"aaba", "baaa"},
		"bbb.": {"baab"},
		"abb.": {"abaa"},
		"abcd": {"abcd"},
		"qqq.": {".qqq", "ppqq", "q.qq", "qppq", "qq.q", "qqpp", "qqq."},
		"qqqq": {"qqqq"},
		// Rows that are no images: tiles that would have merged, and gaps.
		"aa..": {}, "aaa.": {}, "aab.": {}, "aaaa": {}, "bbbb": {}, "pppp": {}, "bbab": {}, ".a..": {}, "...b": {}, "b.b.": {}, "b..q": {},
	} {
		rows, ok := impl.RowsBefore(rowOf(text))
		sorted := rowsOf(want...)
		slices.SortFunc(sorted, func(a, b [4]int) int { return placeOf(a) - placeOf(b) })
		if !ok || !slices.Equal(rows, sorted) {
			t.Errorf("RowsBefore %s = %v, %v, not %v", text, rows, ok, sorted)
		}
		if image, ok := impl.IsImage(rowOf(text)); !ok || image != (len(want) > 0) {
			t.Errorf("IsImage %s = %v, %v", text, image, ok)
		}
	}
}

func TestFourEqualTilesAreNoImage(t *testing.T) {
	for tile := 1; tile <= impl.MaxTile; tile++ {
		row := [4]int{tile, tile, tile, tile}
		if image, ok := impl.IsImage(row); !ok || image != (tile == impl.MaxTile) {
			t.Errorf("IsImage(%v) = %v, %v", row, image, ok)
		}
	}
}

func TestARowThatStaysIsBeforeItself(t *testing.T) {
	for number, done := range toFirst() {
		row := rowWith(number)
		rows, _ := impl.RowsBefore(row)
		if slices.Contains(rows, row) != (done.row == row) {
			t.Errorf("%v slides to %v, and before it are %v", row, done.row, rows)
		}
	}
}

func TestCountImages(t *testing.T) {
	for most := range 7 {
		want := 0
		for image := range rowsInto() {
			if slices.Max(image[:]) <= most {
				want++
			}
		}
		if many, ok := impl.CountImages(most); !ok || many != want {
			t.Errorf("CountImages(%d) = %d, %v, not %d", most, many, ok, want)
		}
	}
	// With at most 2, the images are "....", "a...", "b...", "ab..", "ba..", "bb..", "aba.", "abb.", "bab.", "bba.", "bbb.", "abab" and "baba".
	for most, want := range []int{1, 2, 13} {
		if many, ok := impl.CountImages(most); !ok || many != want {
			t.Errorf("CountImages(%d) = %d, %v, not %d", most, many, ok, want)
		}
	}
	for _, most := range []int{-1, 7, 8, -2, -7, 17, 18, 1 << 32, 1<<32 + 1, 1 << 62, math.MaxInt, math.MinInt} {
		if many, ok := impl.CountImages(most); ok || many != 0 {
			t.Errorf("CountImages(%d) = %d, %v", most, many, ok)
		}
	}
}

func TestSettleRow(t *testing.T) {
	for _, c := range []struct {
		row, want string
		times     int
	}{
		{"aabc", "d...", 3}, {"....", "....", 0}, {"a...", "a...", 0}, {"...a", "a...", 1}, {"abcd", "abcd", 0},
		{"aaaa", "c...", 2}, {"aaa.", "ba..", 1}, {".aaa", "ba..", 1}, {"baaa", "ca..", 2}, {"aabb", "bc..", 1},
		{"cbaa", "d...", 3}, {"qqqq", "qqqq", 0}, {"pppp", "qq..", 1}, {"oopq", "qq..", 2}, {"q..q", "qq..", 1},
	} {
		row, times, ok := impl.SettleRow(rowOf(c.row))
		if !ok || row != rowOf(c.want) || times != c.times {
			t.Errorf("SettleRow %s = %v, %d, %v", c.row, row, times, ok)
		}
	}
	for number := range manyRows {
		want, many := rowWith(number), 0
		for toFirst()[placeOf(want)].row != want {
			want = toFirst()[placeOf(want)].row
			many++
		}
		if row, times, ok := impl.SettleRow(rowWith(number)); !ok || row != want || times != many {
			t.Errorf("SettleRow(%v) = %v, %d, %v, not %v, %d", rowWith(number), row, times, ok, want, many)
		}
	}
}

func TestTurnRow(t *testing.T) {
	for number := range manyRows {
		row := rowWith(number)
		turned, ok := impl.TurnRow(row)
		if !ok || turned != [4]int{row[3], row[2], row[1], row[0]} {
			t.Errorf("TurnRow(%v) = %v, %v", row, turned, ok)
		}
		if back, ok := impl.TurnRow(turned); !ok || back != row {
			t.Errorf("TurnRow(%v) = %v, %v", turned, back, ok)
		}
	}
}

func TestIsSymmetricRow(t *testing.T) {
	for _, text := range []string{"....", "a...", "...a", "a..b", "aa..", "aaaa", "aabb", "abab", "abcd", "a.a.", "qqqq", ".qqq", "pppp", "aab.", "qpp."} {
		if is, ok := impl.IsSymmetricRow(rowOf(text)); !ok || !is {
			t.Errorf("IsSymmetricRow %s = %v, %v", text, is, ok)
		}
	}
	for _, text := range []string{"aaa.", ".aaa", "a.aa", "aaab", "baaa", "ppp.", "qppp"} {
		if is, ok := impl.IsSymmetricRow(rowOf(text)); !ok || is {
			t.Errorf("IsSymmetricRow %s = %v, %v", text, is, ok)
		}
	}
	for number := range manyRows {
		want := slices.Equal(plainTiles(toFirst()[number].row), plainTiles(toLast()[number].row))
		if is, ok := impl.IsSymmetricRow(rowWith(number)); !ok || is != want {
			t.Errorf("IsSymmetricRow(%v) = %v, %v", rowWith(number), is, ok)
		}
	}
}

// mostBy returns, by the numbers of rowWith, the greatest sum of scores of at most so many
// slides to either place.
func mostBy(slides int) []int {
	most := make([]int, manyRows)
	for range slides {
		longer := make([]int, manyRows)
		for number := range longer {
			first, last := toFirst()[number], toLast()[number]
			longer[number] = max(most[number], first.score+most[placeOf(first.row)], last.score+most[placeOf(last.row)])
		}
		most = longer
	}
	return most
}

func TestMostRowScore(t *testing.T) {
	for text, want := range map[string]int{
		"....": 0, "a...": 0, "...a": 0, "abcd": 0, "qqqq": 0, ".q.q": 0, "aabc": 28, "cbaa": 28, "aaaa": 16, "a..a": 4,
		// Only one place is right for the first slide of these.
		"aaab": 12, "baaa": 12, "aaa.": 4, "qppp": worth(17), "pppp": 2 * worth(17), "oopp": worth(16) + worth(17), "ooop": worth(16) + worth(17), "ooo.": worth(16),
	} {
		if most, ok := impl.MostRowScore(rowOf(text)); !ok || most != want {
			t.Errorf("MostRowScore %s = %d, %v, not %d", text, most, ok, want)
		}
	}
	all := mostBy(9)
	for number, want := range all {
		if most, ok := impl.MostRowScore(rowWith(number)); !ok || most != want {
			t.Errorf("MostRowScore(%v) = %d, %v, not %d", rowWith(number), most, ok, want)
		}
	}
	if !slices.Equal(all, mostBy(8)) {
		t.Error("so many slides are not enough for the test")
	}
}

func TestRowNumberAndRowAt(t *testing.T) {
	last := [4]int{-1, 0, 0, 0}
	for number := range manyRows {
		row, ok := impl.RowAt(number)
		if !ok || row != rowWith(number) || slices.Compare(last[:], row[:]) >= 0 {
			t.Errorf("RowAt(%d) = %v, %v, behind %v", number, row, ok, last)
		}
		if back, ok := impl.RowNumber(row); !ok || back != number {
			t.Errorf("RowNumber(%v) = %d, %v, not %d", row, back, ok, number)
		}
		last = row
	}
	for text, want := range map[string]int{"....": 0, "...a": 1, "...q": 17, "..a.": 18, "..ab": 20, ".a..": 324, "a...": 5832, "qqqq": 104975} {
		if number, ok := impl.RowNumber(rowOf(text)); !ok || number != want {
			t.Errorf("RowNumber %s = %d, %v", text, number, ok)
		}
	}
	for _, number := range []int{-1, 104976, 104977, -2, -18, -104975, -104976, 18 * 104976, 1 << 32, 1<<32 + 1, 1 << 62, math.MaxInt, math.MinInt} {
		if row, ok := impl.RowAt(number); ok || row != [4]int{} {
			t.Errorf("RowAt(%d) = %v, %v", number, row, ok)
		}
	}
}

// The guarantee of the chapter.
func TestRowsKeepTheGuarantee(t *testing.T) {
	for number := range manyRows {
		row := rowWith(number)
		settled, _, _ := impl.SettleRow(row)
		next, score, _ := impl.SlideRow(row)
		if again, _, _ := impl.SlideRow(settled); again != settled {
			t.Errorf("%v settles to %v, which slides to %v", row, settled, again)
		}
		if image, _ := impl.IsImage(row); next == row && !image {
			t.Errorf("%v slides to itself, and is no image", row)
		}
		if most, _ := impl.MostRowScore(row); most < score {
			t.Errorf("%v scores at most %d, and with one slide %d", row, most, score)
		}
		turned, _ := impl.TurnRow(row)
		one, _ := impl.RowPairs(row)
		other, _ := impl.RowPairs(turned)
		if one != other {
			t.Errorf("%v has %d pairs, and from its end %d", row, one, other)
		}
	}
}

// rowResults tells what the functions of one row return, and whether they are zero values and
// false.
func rowResults(row [4]int) (string, bool) {
	next, score, one := impl.SlideRow(row)
	flush, two := impl.IsFlush(row)
	image, three := impl.IsImage(row)
	rows, four := impl.RowsBefore(row)
	settled, times, five := impl.SettleRow(row)
	turned, six := impl.TurnRow(row)
	same, seven := impl.IsSymmetricRow(row)
	pairs, eight := impl.RowPairs(row)
	most, nine := impl.MostRowScore(row)
	number, ten := impl.RowNumber(row)
	told := fmt.Sprint(next, score, one, flush, two, image, three, rows, four, settled, times, five, turned, six, same, seven, pairs, eight, most, nine, number, ten)
	zero := next == [4]int{} && score == 0 && !flush && !image && len(rows) == 0 && settled == [4]int{} && times == 0 && turned == [4]int{} && !same && pairs == 0 && most == 0 && number == 0
	return told, zero && !one && !two && !three && !four && !five && !six && !seven && !eight && !nine && !ten
}

func TestWrongRowsAreRefused(t *testing.T) {
	for _, row := range wrongRows() {
		if told, none := rowResults(row); !none {
			t.Errorf("%v: %s", row, told)
		}
	}
}

// Promise 13.
func TestRowFunctionsReturnTheSameForTheSame(t *testing.T) {
	rows := wrongRows()
	for number := 0; number < manyRows; number += 7 {
		rows = append(rows, rowWith(number))
	}
	for _, row := range rows {
		kept := row
		first, _ := rowResults(row)
		if again, _ := rowResults(row); again != first || row != kept {
			t.Errorf("%v: %s, then %s", row, first, again)
		}
	}
	for number := -2; number < 20; number++ {
		one, ok := impl.CountImages(number)
		if two, fine := impl.CountImages(number); one != two || ok != fine {
			t.Errorf("CountImages(%d) = %d, %v, then %d, %v", number, one, ok, two, fine)
		}
	}
}

func TestRowsBeforeAreNewMemory(t *testing.T) {
	row := rowOf("qq..")
	rows, _ := impl.RowsBefore(row)
	others, _ := impl.RowsBefore(row)
	for i := range rows {
		rows[i] = [4]int{99, 99, 99, 99}
	}
	_ = append(rows[:1], [4]int{88, 88, 88, 88})
	again, _ := impl.RowsBefore(row)
	if len(rows) != 15 || !slices.Equal(others, rowsInto()[row]) || !slices.Equal(again, rowsInto()[row]) {
		t.Error("rows before:", others, again)
	}
}
