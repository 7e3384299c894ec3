package tests

import (
	"fmt"
	"maps"
	"math"
	"math/rand"
	"slices"
	"testing"

	"loop.example/g01194/impl"
)

// markedText is the text of a Board that shows where each cell goes.
const markedText = "abcd/efgh/ijkl/mnop"

// plainPlace returns the cell to which the form k moves what is in a cell.
func plainPlace(cell [2]int, k int) [2]int {
	for range k % 4 {
		cell = [2]int{cell[1], 3 - cell[0]}
	}
	if k >= 4 {
		cell[1] = 3 - cell[1]
	}
	return cell
}

func plainForm(b impl.Board, k int) impl.Board {
	form := impl.Board{}
	for r := range 4 {
		for c := range 4 {
			cell := plainPlace([2]int{r, c}, k)
			form.Rows[cell[0]][cell[1]] = b.Rows[r][c]
		}
	}
	return form
}

func plainLess(a impl.Board, b impl.Board) bool {
	return slices.Compare(cellsOf(a), cellsOf(b)) < 0
}

// plainFirst returns the least form and the least number of a form that is it.
func plainFirst(b impl.Board) (impl.Board, int) {
	least := plainForm(b, 0)
	for k := range 8 {
		if form := plainForm(b, k); plainLess(form, least) {
			least = form
		}
	}
	number := 0
	for plainForm(b, number) != least {
		number++
	}
	return least, number
}

func plainSymmetries(b impl.Board) []int {
	same := []int{}
	for k := range 8 {
		if plainForm(b, k) == b {
			same = append(same, k)
		}
	}
	return same
}

func plainDoCommute(b impl.Board, d int, e int) bool {
	one, _, _ := plainSlide(b, d)
	one, _, _ = plainSlide(one, e)
	other, _, _ := plainSlide(b, e)
	other, _, _ = plainSlide(other, d)
	return one == other
}

// symmetryCases has a Board for each set of symmetries that there can be.
func symmetryCases() map[string][]int {
	return map[string][]int{
		markedText:            {0},
		"aab./..../..../c...": {0},
		"abcd/efgh/hgfe/dcba": {0, 2},
		"q.../..../..../...q": {0, 2, 5, 7},
		".a../..../..../..a.": {0, 2},
		"abba/cddc/effe/ghhg": {0, 4},
		".aa./..../..../....": {0, 4},
		"abcd/befg/cfhi/dgij": {0, 5},
		"a.../..../..../....": {0, 5},
		"..../.a../..../....": {0, 5},
		"abcd/efgh/efgh/abcd": {0, 6},
		"..../...q/...q/....": {0, 6},
		"dcba/gfeb/ihfc/jigd": {0, 7},
		"...a/..../..../....": {0, 7},
		"abca/cddb/bddc/acba": {0, 1, 2, 3},
		".q../...q/q.../..q.": {0, 1, 2, 3},
		"abba/cddc/cddc/abba": {0, 2, 4, 6},
		"aaaa/qqqq/qqqq/aaaa": {0, 2, 4, 6},
		"abcd/befc/cfeb/dcba": {0, 2, 5, 7},
		"abab/baba/abab/baba": {0, 2, 5, 7},
		"abba/bccb/bccb/abba": {0, 1, 2, 3, 4, 5, 6, 7},
		"q..q/..../..../q..q": {0, 1, 2, 3, 4, 5, 6, 7},
		emptyText:             {0, 1, 2, 3, 4, 5, 6, 7},
		"aaaa/aaaa/aaaa/aaaa": {0, 1, 2, 3, 4, 5, 6, 7},
		"qqqq/qqqq/qqqq/qqqq": {0, 1, 2, 3, 4, 5, 6, 7},
	}
}

// madeAlike returns a Board that is its own image in each form of a group.
func madeAlike(b impl.Board, group []int) impl.Board {
	alike := impl.Board{}
	for cell := range 16 {
		source := 16
		for _, k := range group {
			place := plainPlace([2]int{cell / 4, cell % 4}, k)
			source = min(source, place[0]*4+place[1])
		}
		alike.Rows[cell/4][cell%4] = b.Rows[source/4][source%4]
	}
	return alike
}

// formSamples returns sampleBoards, and such ones as have symmetries of each kind.
func formSamples() []impl.Board {
	boards := sampleBoards()
	source := rand.New(rand.NewSource(31))
	for _, text := range slices.Sorted(maps.Keys(symmetryCases())) {
		boards = append(boards, boardOf(text))
	}
	for _, group := range [][]int{
		{0, 2}, {0, 4}, {0, 5}, {0, 6}, {0, 7}, {0, 1, 2, 3}, {0, 2, 4, 6}, {0, 2, 5, 7}, {0, 1, 2, 3, 4, 5, 6, 7},
	} {
		for _, kind := range [][3]int{{2, 1, 2}, {4, 1, 3}, {100, 1, 2}, {3, 16, 17}, {100, 1, 17}} {
			for range 8 {
				boards = append(boards, madeAlike(randomBoard(source, kind[0], kind[1], kind[2]), group))
			}
		}
	}
	return boards
}

func wrongForms() []int {
	return []int{-1, 8, 9, 12, 15, 16, -4, -7, -8, 256, 1 << 32, 1<<32 + 1, math.MaxInt, math.MinInt}
}

func TestFormBoard(t *testing.T) {
	for k, want := range []string{
		markedText, "miea/njfb/okgc/plhd", "ponm/lkji/hgfe/dcba", "dhlp/cgko/bfjn/aeim",
		"dcba/hgfe/lkji/ponm", "aeim/bfjn/cgko/dhlp", "mnop/ijkl/efgh/abcd", "plhd/okgc/njfb/miea",
	} {
		if form, ok := impl.FormBoard(boardOf(markedText), k); !ok || form != boardOf(want) {
			t.Errorf("FormBoard %s, %d = %v, %v", markedText, k, form, ok)
		}
	}
	for _, b := range formSamples() {
		for k := range 8 {
			if form, ok := impl.FormBoard(b, k); !ok || form != plainForm(b, k) {
				t.Errorf("FormBoard(%v, %d) = %v, %v", b, k, form, ok)
			}
		}
	}
}

func TestFormBehind(t *testing.T) {
	want := [8][8]int{
		{0, 1, 2, 3, 4, 5, 6, 7}, {1, 2, 3, 0, 5, 6, 7, 4}, {2, 3, 0, 1, 6, 7, 4, 5}, {3, 0, 1, 2, 7, 4, 5, 6},
		{4, 7, 6, 5, 0, 3, 2, 1}, {5, 4, 7, 6, 1, 0, 3, 2}, {6, 5, 4, 7, 2, 1, 0, 3}, {7, 6, 5, 4, 3, 2, 1, 0},
	}
	b := boardOf(markedText)
	for k := range 8 {
		for m := range 8 {
			if both, ok := impl.FormBehind(k, m); !ok || both != want[k][m] {
				t.Errorf("FormBehind(%d, %d) = %d, %v", k, m, both, ok)
			}
			if plainForm(b, want[k][m]) != plainForm(plainForm(b, k), m) {
				t.Errorf("the table is wrong for %d and %d", k, m)
			}
		}
	}
}

func TestFormBack(t *testing.T) {
	for k, want := range []int{0, 3, 2, 1, 4, 5, 6, 7} {
		if back, ok := impl.FormBack(k); !ok || back != want {
			t.Errorf("FormBack(%d) = %d, %v", k, back, ok)
		}
	}
}

func TestFormSide(t *testing.T) {
	for k, want := range [][4]int{
		{left, up, right, down}, {up, right, down, left}, {right, down, left, up}, {down, left, up, right},
		{right, up, left, down}, {up, left, down, right}, {left, down, right, up}, {down, right, up, left},
	} {
		for direction := range 4 {
			if side, ok := impl.FormSide(k, direction); !ok || side != want[direction] {
				t.Errorf("FormSide(%d, %d) = %d, %v", k, direction, side, ok)
			}
		}
	}
}

// Promise 3, its first part.
func TestFormsMakeAGroup(t *testing.T) {
	behind := func(k int, m int) int {
		both, ok := impl.FormBehind(k, m)
		if !ok || both < 0 || both > 7 {
			t.Fatalf("FormBehind(%d, %d) = %d, %v", k, m, both, ok)
		}
		return both
	}
	for k := range 8 {
		back, ok := impl.FormBack(k)
		if !ok || behind(k, back) != 0 || behind(back, k) != 0 || behind(k, 0) != k || behind(0, k) != k {
			t.Errorf("the form %d and %d, %v", k, back, ok)
		}
		for m := range 8 {
			for n := range 8 {
				if behind(behind(k, m), n) != behind(k, behind(m, n)) {
					t.Errorf("the forms %d, %d and %d", k, m, n)
				}
			}
		}
	}
}

func TestFormsOfFormsAreForms(t *testing.T) {
	for _, b := range formSamples() {
		for k := range 8 {
			form, ok := impl.FormBoard(b, k)
			number, _ := impl.FormBack(k)
			back, fine := impl.FormBoard(form, number)
			if !ok || !fine || back != b {
				t.Errorf("%v: back from the form %d: %v, %v, %v", b, k, back, ok, fine)
			}
			for m := range 8 {
				both, _ := impl.FormBehind(k, m)
				one, _ := impl.FormBoard(form, m)
				if other, ok := impl.FormBoard(b, both); !ok || one != other {
					t.Errorf("%v: the form %d of the form %d is %v, not %v", b, m, k, one, other)
				}
			}
		}
	}
}

// Promise 3, its second part.
func TestSlidesGoWithForms(t *testing.T) {
	for _, b := range formSamples() {
		for direction := range 4 {
			slid, score, _ := impl.SlideBoard(b, direction)
			mergers, _ := impl.MergersOf(b, direction)
			for k := range 8 {
				side, fine := impl.FormSide(k, direction)
				form, _ := impl.FormBoard(b, k)
				got, same, ok := impl.SlideBoard(form, side)
				want, _ := impl.FormBoard(slid, k)
				many, _ := impl.MergersOf(form, side)
				if !fine || !ok || got != want || same != score || many != mergers {
					t.Errorf("%v to %d: the form %d to %d makes %v, %d, %d", b, direction, k, side, got, same, many)
				}
			}
		}
	}
}

// Promise 3, its third part.
func TestBoardsOfOneFormHaveOneFirstForm(t *testing.T) {
	for _, b := range formSamples() {
		first, number, ok := impl.FirstForm(b)
		if !ok || first != plainForm(b, number) {
			t.Errorf("FirstForm(%v) = %v, %d, %v", b, first, number, ok)
		}
		for k := range 8 {
			form, _ := impl.FormBoard(b, k)
			other, m, ok := impl.FirstForm(form)
			if !ok || other != first || plainForm(form, m) != first {
				t.Errorf("FirstForm of the form %d of %v = %v, %d, %v", k, b, other, m, ok)
			}
			same, fine := impl.AreSameForm(form, b)
			back, good := impl.AreSameForm(b, form)
			if !same || !fine || !back || !good {
				t.Errorf("%v and its form %d: %v, %v, %v, %v", b, k, same, fine, back, good)
			}
		}
		if again, k, ok := impl.FirstForm(first); !ok || again != first || k != 0 {
			t.Errorf("FirstForm of the first form %v = %v, %d, %v", first, again, k, ok)
		}
	}
}

func TestFirstForm(t *testing.T) {
	cases := []struct {
		board, first string
		k            int
	}{
		{emptyText, emptyText, 0},
		{"aaaa/aaaa/aaaa/aaaa", "aaaa/aaaa/aaaa/aaaa", 0},
		{"qqqq/qqqq/qqqq/qqqq", "qqqq/qqqq/qqqq/qqqq", 0},
		{markedText, markedText, 0},
		{"dcba/hgfe/lkji/ponm", markedText, 4},
		{"aeim/bfjn/cgko/dhlp", markedText, 5},
		{"mnop/ijkl/efgh/abcd", markedText, 6},
		{"plhd/okgc/njfb/miea", markedText, 7},
		{"..../..../..../...q", "..../..../..../...q", 0},
		{"...a/..../..../....", "..../..../..../...a", 1},
		{"a.../..../..../....", "..../..../..../...a", 2},
		{"..../..../..../a...", "..../..../..../...a", 3},
		{".a../..../..../....", "..../..../..../..a.", 2},
		{"..a./..../..../....", "..../..../..../..a.", 6},
		{"..../.a../..../....", "..../..../..a./....", 2},
		{"qqqq/qqqq/qqqq/qqqp", "pqqq/qqqq/qqqq/qqqq", 2},
		{"baba/abab/baba/abab", "abab/baba/abab/baba", 1},
		{"aab./..../..../c...", "..../...b/...a/c..a", 7},
	}
	for _, c := range cases {
		if first, k, ok := impl.FirstForm(boardOf(c.board)); !ok || first != boardOf(c.first) || k != c.k {
			t.Errorf("FirstForm %s = %v, %d, %v", c.board, first, k, ok)
		}
	}
	for _, b := range formSamples() {
		want, number := plainFirst(b)
		if first, k, ok := impl.FirstForm(b); !ok || first != want || k != number {
			t.Errorf("FirstForm(%v) = %v, %d, %v", b, first, k, ok)
		}
	}
}

func TestAreSameForm(t *testing.T) {
	cases := []struct {
		a, b string
		same bool
	}{
		{emptyText, emptyText, true},
		{emptyText, "a.../..../..../....", false},
		{"a.../..../..../....", "..../..../..../...a", true},
		{"a.../..../..../....", "b.../..../..../....", false},
		{"a.../..../..../....", ".a../..../..../....", false},
		{".a../..../..../....", "..../a.../..../....", true},
		{".a../..../..../....", "..../.a../..../....", false},
		{"ab../..../..../....", "ba../..../..../....", false},
		{"ab../..../..../....", "a.../b.../..../....", true},
		{"abcd/efgh/ijkl/mnop", "abcd/efgh/ijkl/mnpo", false},
		{"abcd/efgh/ijkl/mnop", "plhd/okgc/njfb/miea", true},
		{"abcd/efgh/ijkl/mnop", "bacd/efgh/ijkl/mnop", false},
		{"aaaa/aaaa/aaaa/aaaa", "aaaa/aaaa/aaaa/aaaa", true},
		{"aaaa/aaaa/aaaa/aaaa", "qqqq/qqqq/qqqq/qqqq", false},
		{"qqqq/qqqq/qqqq/qqqp", "pqqq/qqqq/qqqq/qqqq", true},
		{"abab/baba/abab/baba", "baba/abab/baba/abab", true},
	}
	for _, c := range cases {
		one, ok := impl.AreSameForm(boardOf(c.a), boardOf(c.b))
		other, fine := impl.AreSameForm(boardOf(c.b), boardOf(c.a))
		if !ok || !fine || one != c.same || other != c.same {
			t.Errorf("AreSameForm %s and %s: %v, %v, %v, %v", c.a, c.b, one, ok, other, fine)
		}
	}
	boards := formSamples()
	for i, a := range boards {
		b := boards[(i*7+3)%len(boards)]
		want := false
		for k := range 8 {
			want = want || plainForm(a, k) == b
		}
		if same, ok := impl.AreSameForm(a, b); !ok || same != want {
			t.Errorf("AreSameForm(%v, %v) = %v, %v", a, b, same, ok)
		}
	}
}

func TestSymmetriesOf(t *testing.T) {
	for text, want := range symmetryCases() {
		if same, ok := impl.SymmetriesOf(boardOf(text)); !ok || !slices.Equal(same, want) {
			t.Errorf("SymmetriesOf %s = %v, %v, not %v", text, same, ok, want)
		}
		if many, ok := impl.CountForms(boardOf(text)); !ok || many*len(want) != 8 {
			t.Errorf("CountForms %s = %d, %v", text, many, ok)
		}
	}
	for _, b := range formSamples() {
		if same, ok := impl.SymmetriesOf(b); !ok || !slices.Equal(same, plainSymmetries(b)) {
			t.Errorf("SymmetriesOf(%v) = %v, %v", b, same, ok)
		}
	}
}

func TestFormsOf(t *testing.T) {
	cases := map[string][]string{
		emptyText:             {emptyText},
		"qqqq/qqqq/qqqq/qqqq": {"qqqq/qqqq/qqqq/qqqq"},
		"abab/baba/abab/baba": {"abab/baba/abab/baba", "baba/abab/baba/abab"},
		"...q/..../..../....": {"..../..../..../...q", "..../..../..../q...", "...q/..../..../....", "q.../..../..../...."},
		"abca/cddb/bddc/acba": {"abca/cddb/bddc/acba", "acba/bddc/cddb/abca"},
		"plhd/okgc/njfb/miea": {
			markedText, "aeim/bfjn/cgko/dhlp", "dcba/hgfe/lkji/ponm", "dhlp/cgko/bfjn/aeim",
			"miea/njfb/okgc/plhd", "mnop/ijkl/efgh/abcd", "plhd/okgc/njfb/miea", "ponm/lkji/hgfe/dcba",
		},
	}
	for text, want := range cases {
		boards := []impl.Board{}
		for _, form := range want {
			boards = append(boards, boardOf(form))
		}
		if forms, ok := impl.FormsOf(boardOf(text)); !ok || !slices.Equal(forms, boards) {
			t.Errorf("FormsOf %s = %v, %v", text, forms, ok)
		}
	}
	for _, b := range formSamples() {
		checkFormsOf(t, b)
	}
}

// checkFormsOf fails the test unless the forms ascend, are those of the Board, and are as many
// as they are counted.
func checkFormsOf(t *testing.T, b impl.Board) {
	different := map[impl.Board]bool{}
	for k := range 8 {
		different[plainForm(b, k)] = true
	}
	forms, ok := impl.FormsOf(b)
	many, fine := impl.CountForms(b)
	if !ok || !fine || len(forms) != len(different) || many != len(different) {
		t.Errorf("FormsOf(%v) = %v, %v, and they are %d, %v", b, forms, ok, many, fine)
	}
	for i, form := range forms {
		if !different[form] || i > 0 && !plainLess(forms[i-1], form) {
			t.Errorf("FormsOf(%v) = %v", b, forms)
		}
	}
}

func TestFormsKeepSumTilesAndPairs(t *testing.T) {
	told := func(b impl.Board) string {
		sum, one := impl.SumOf(b)
		counts, two := impl.CountTiles(b)
		pairs, three := impl.EqualPairs(b)
		return fmt.Sprint(sum, one, counts, two, pairs, three)
	}
	for _, b := range formSamples() {
		for k := range 8 {
			if form, ok := impl.FormBoard(b, k); !ok || told(form) != told(b) {
				t.Errorf("%v has %s, and its form %d has %s", b, told(b), k, told(form))
			}
		}
	}
}

func TestCommutingPairs(t *testing.T) {
	all := [][2]int{{0, 1}, {0, 2}, {0, 3}, {1, 2}, {1, 3}, {2, 3}}
	cases := map[string][][2]int{
		emptyText:             all,
		markedText:            all,
		"qqqq/qqqq/qqqq/qqqq": all,
		"abab/baba/abab/baba": all,
		"a.../..../..../....": {{0, 1}, {0, 3}, {1, 2}, {2, 3}},
		"..../.q../..../....": {{0, 1}, {0, 3}, {1, 2}, {2, 3}},
		"aaaa/aaaa/aaaa/aaaa": {{0, 1}, {0, 3}, {1, 2}, {2, 3}},
		"qqqq/..../..../....": {{0, 1}, {0, 2}, {0, 3}, {1, 2}, {2, 3}},
		"abcd/efgh/ijkl/mnoo": {{0, 1}, {1, 2}, {1, 3}},
		"aa../b.../..../....": {},
	}
	for text, want := range cases {
		if pairs, ok := impl.CommutingPairs(boardOf(text)); !ok || !slices.Equal(pairs, want) {
			t.Errorf("CommutingPairs %s = %v, %v, not %v", text, pairs, ok, want)
		}
	}
}

func TestDoCommute(t *testing.T) {
	answers := map[string]int{}
	for _, b := range formSamples() {
		want := [][2]int{}
		for d := range 4 {
			for e := range 4 {
				does := plainDoCommute(b, d, e)
				if do, ok := impl.DoCommute(b, d, e); !ok || do != does {
					t.Errorf("DoCommute(%v, %d, %d) = %v, %v", b, d, e, do, ok)
				}
				if d == e && !does {
					t.Errorf("%v: %d does not commute with itself", b, d)
				}
				if d < e && does {
					want = append(want, [2]int{d, e})
				}
				answers[fmt.Sprint(d, e, does)]++
			}
		}
		if pairs, ok := impl.CommutingPairs(b); !ok || !slices.Equal(pairs, want) {
			t.Errorf("CommutingPairs(%v) = %v, %v, not %v", b, pairs, ok, want)
		}
	}
	if len(answers) != 28 {
		t.Error("each two different directions commute on some Boards and not on others:", answers)
	}
}

// plainDistinct compares what is behind each move with what is behind those before it.
func plainDistinct(b impl.Board) []int {
	distinct := []int{}
	for _, direction := range plainMoves(b) {
		slid, _, _ := plainSlide(b, direction)
		first, _ := plainFirst(slid)
		isNew := true
		for _, before := range plainMoves(b) {
			other, _, _ := plainSlide(b, before)
			earlier, _ := plainFirst(other)
			isNew = isNew && (before >= direction || earlier != first)
		}
		if isNew {
			distinct = append(distinct, direction)
		}
	}
	return distinct
}

func TestDistinctMoves(t *testing.T) {
	cases := map[string][]int{
		emptyText:             {},
		markedText:            {},
		"abab/baba/abab/baba": {},
		"qqqq/qqqq/qqqq/qqqq": {},
		"a.../..../..../....": {right},
		"...a/..../..../....": {left},
		"..../..../..../a...": {up},
		"..../.a../..../....": {left},
		"aa../..../..../....": {left, down},
		"a.a./..../..../....": {left, down},
		".aa./..../..../....": {left, down},
		"q..q/..../..../....": {left, down},
		"aaaa/aaaa/aaaa/aaaa": {left},
		"abcd/efgh/ijkl/mnoo": {left, right},
		"pppp/qqqq/pppp/qqqq": {left},
		"qqqq/qqqq/qqqq/qqq.": {right},
		"a..a/..../..../a..a": {left},
		"abcd/..../..../....": {down},
	}
	for text, want := range cases {
		if moves, ok := impl.DistinctMoves(boardOf(text)); !ok || !slices.Equal(moves, want) {
			t.Errorf("DistinctMoves %s = %v, %v, not %v", text, moves, ok, want)
		}
	}
	for _, b := range formSamples() {
		if moves, ok := impl.DistinctMoves(b); !ok || !slices.Equal(moves, plainDistinct(b)) {
			t.Errorf("DistinctMoves(%v) = %v, %v, not %v", b, moves, ok, plainDistinct(b))
		}
	}
}

func TestDistinctMovesAreAsManyForAllForms(t *testing.T) {
	for _, b := range formSamples() {
		moves, ok := impl.DistinctMoves(b)
		for k := range 8 {
			form, _ := impl.FormBoard(b, k)
			others, fine := impl.DistinctMoves(form)
			if !ok || !fine || len(others) != len(moves) {
				t.Errorf("%v: %v, %v, and for its form %d %v, %v", b, moves, ok, k, others, fine)
			}
		}
	}
}

// formResults tells what the functions of one Board return, and whether they are zero values
// and false.
func formResults(b impl.Board) (string, bool) {
	first, k, one := impl.FirstForm(b)
	same, two := impl.SymmetriesOf(b)
	many, three := impl.CountForms(b)
	forms, four := impl.FormsOf(b)
	pairs, five := impl.CommutingPairs(b)
	moves, six := impl.DistinctMoves(b)
	are, seven := impl.AreSameForm(b, b)
	told := fmt.Sprint(first, k, one, same, two, many, three, forms, four, pairs, five, moves, six, are, seven)
	zero := first == impl.Board{} && k == 0 && len(same) == 0 && many == 0 && len(forms) == 0 && len(pairs) == 0 && len(moves) == 0 && !are
	return told, zero && !one && !two && !three && !four && !five && !six && !seven
}

func checkNoForm(t *testing.T, b impl.Board, k int) {
	t.Helper()
	if form, ok := impl.FormBoard(b, k); ok || form != (impl.Board{}) {
		t.Errorf("FormBoard(%v, %d) = %v, %v", b, k, form, ok)
	}
}

func checkNoCommute(t *testing.T, b impl.Board, d int, e int) {
	t.Helper()
	if do, ok := impl.DoCommute(b, d, e); ok || do {
		t.Errorf("DoCommute(%v, %d, %d) = %v, %v", b, d, e, do, ok)
	}
}

func TestWrongBoardsHaveNoForms(t *testing.T) {
	for _, b := range wrongBoards() {
		if told, none := formResults(b); !none {
			t.Errorf("%v: %s", b, told)
		}
		for k := -1; k <= 8; k++ {
			checkNoForm(t, b, k)
		}
		for d := -1; d <= 4; d++ {
			for e := -1; e <= 4; e++ {
				checkNoCommute(t, b, d, e)
			}
		}
		for _, other := range []impl.Board{{}, fullOf(1), fullOf(impl.MaxTile), boardOf(markedText)} {
			one, ok := impl.AreSameForm(b, other)
			two, fine := impl.AreSameForm(other, b)
			if one || ok || two || fine {
				t.Errorf("%v and %v: %v, %v, %v, %v", b, other, one, ok, two, fine)
			}
		}
	}
}

func TestWrongFormsAreRefused(t *testing.T) {
	for _, k := range wrongForms() {
		for _, b := range []impl.Board{{}, fullOf(1), fullOf(impl.MaxTile), boardOf(markedText)} {
			checkNoForm(t, b, k)
		}
		if back, ok := impl.FormBack(k); ok || back != 0 {
			t.Errorf("FormBack(%d) = %d, %v", k, back, ok)
		}
		for _, m := range append(wrongForms(), 0, 1, 2, 3, 4, 5, 6, 7) {
			one, ok := impl.FormBehind(k, m)
			two, fine := impl.FormBehind(m, k)
			if ok || fine || one != 0 || two != 0 {
				t.Errorf("FormBehind of %d and %d: %d, %v, %d, %v", k, m, one, ok, two, fine)
			}
		}
		for _, direction := range append(wrongDirections(), left, up, right, down) {
			if side, ok := impl.FormSide(k, direction); ok || side != 0 {
				t.Errorf("FormSide(%d, %d) = %d, %v", k, direction, side, ok)
			}
		}
	}
}

func TestWrongDirectionsOfFormsAreRefused(t *testing.T) {
	for _, d := range wrongDirections() {
		for k := range 8 {
			if side, ok := impl.FormSide(k, d); ok || side != 0 {
				t.Errorf("FormSide(%d, %d) = %d, %v", k, d, side, ok)
			}
		}
		for _, b := range []impl.Board{{}, fullOf(1), fullOf(impl.MaxTile), boardOf(markedText)} {
			for _, e := range append(wrongDirections(), left, up, right, down) {
				checkNoCommute(t, b, d, e)
				checkNoCommute(t, b, e, d)
			}
		}
	}
}

// Promise 13.
func TestFormFunctionsReturnTheSameForTheSame(t *testing.T) {
	for _, b := range append(formSamples(), wrongBoards()...) {
		kept := b
		first, _ := formResults(b)
		if again, _ := formResults(b); again != first || b != kept {
			t.Errorf("%v: %s, then %s", b, first, again)
		}
	}
}

func TestListsOfFormsAreNewMemory(t *testing.T) {
	b := boardOf("a.../..../..../....")
	same, _ := impl.SymmetriesOf(b)
	forms, _ := impl.FormsOf(b)
	pairs, _ := impl.CommutingPairs(b)
	moves, _ := impl.DistinctMoves(b)
	before, _ := formResults(b)
	for i := range forms {
		forms[i] = fullOf(9)
	}
	for i := range pairs {
		pairs[i] = [2]int{99, 99}
	}
	for _, list := range [][]int{same, moves} {
		for i := range list {
			list[i] = 99
		}
		_ = append(list[:1], 77, 78)
	}
	_ = append(forms[:1], fullOf(8), fullOf(7))
	_ = append(pairs[:1], [2]int{88, 88})
	if behind, _ := formResults(b); behind != before {
		t.Errorf("%s, and behind the changes %s", before, behind)
	}
}
