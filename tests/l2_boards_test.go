package tests

import (
	"fmt"
	"math"
	"math/rand"
	"slices"
	"strings"
	"testing"

	"loop.example/g01194/impl"
)

const (
	left  = 0
	up    = 1
	right = 2
	down  = 3
)

const emptyText = "..../..../..../...."

// boardOf reads a Board from its text without the functions that are tested. A text of one row
// stands for the Board that has this row first and is empty otherwise.
func boardOf(text string) impl.Board {
	if len(text) == 4 {
		text += "/..../..../...."
	}
	b := impl.Board{}
	for r, row := range strings.Split(text, "/") {
		for c := range len(row) {
			b.Rows[r][c] = strings.IndexByte(".abcdefghijklmnopq", row[c])
		}
	}
	return b
}

// fullOf returns the Board with a number in all cells.
func fullOf(t int) impl.Board {
	b := impl.Board{}
	for r := range 4 {
		for c := range 4 {
			b.Rows[r][c] = t
		}
	}
	return b
}

// randomBoard returns a Board with about one of every some cells empty, and tiles low..high.
func randomBoard(source *rand.Rand, some int, low int, high int) impl.Board {
	b := impl.Board{}
	for r := range 4 {
		for c := range 4 {
			if source.Intn(some) > 0 {
				b.Rows[r][c] = low + source.Intn(high-low+1)
			}
		}
	}
	return b
}

// sampleBoards returns valid Boards of all kinds, the same ones each time.
func sampleBoards() []impl.Board {
	boards := []impl.Board{}
	for t := 0; t <= impl.MaxTile; t++ {
		boards = append(boards, fullOf(t))
		for cell := range 16 {
			one, hole := impl.Board{}, fullOf(t)
			one.Rows[cell/4][cell%4], hole.Rows[cell/4][cell%4] = t, 0
			boards = append(boards, one, hole)
		}
	}
	for _, text := range []string{
		"abab/baba/abab/baba", "abcd/efgh/ijkl/mnop", "qpon/mlkj/ihgf/edcb", "qqpp/ppqq/qqpp/ppqq",
		"abab/baba/abab/babq", "abab/baba/abab/bab.", "qqqq/abab/qqqq/baba", "aabb/ccdd/eeff/gghh",
		"q.q./.q.q/q.q./.q.q", "a..a/..../..../a..a", "abca/.aa./.aa./abca", "aab./..../..../c...",
	} {
		boards = append(boards, boardOf(text))
	}
	source := rand.New(rand.NewSource(11))
	for _, kind := range [][3]int{{2, 1, 2}, {4, 1, 3}, {100, 1, 2}, {100, 1, 9}, {3, 16, 17}, {100, 16, 17}, {3, 1, 17}, {100, 1, 17}} {
		for range 250 {
			boards = append(boards, randomBoard(source, kind[0], kind[1], kind[2]))
		}
	}
	return boards
}

// wrongNumbers are none of a Board. Some of them look like a good one if bits get lost.
func wrongNumbers() []int {
	return []int{-1, 18, 19, 31, 64, 255, 256, 257, 1 << 32, 1<<32 + 1, -2, -17, -256, math.MaxInt, math.MinInt}
}

// wrongBoards returns Boards that have a wrong number in one cell, or in all cells.
func wrongBoards() []impl.Board {
	boards := []impl.Board{}
	for _, n := range wrongNumbers() {
		for _, b := range []impl.Board{{}, fullOf(1), boardOf("abcd/efgh/ijkl/mnop")} {
			for cell := range 16 {
				wrong := b
				wrong.Rows[cell/4][cell%4] = n
				boards = append(boards, wrong)
			}
		}
		boards = append(boards, fullOf(n))
	}
	return boards
}

func wrongDirections() []int {
	return []int{-1, 4, 5, -4, 7, 256, 1 << 32, math.MaxInt, math.MinInt}
}

func wrongCells() [][2]int {
	cells := [][2]int{}
	for _, n := range []int{-1, 4, 5, -4, 1 << 32, math.MaxInt, math.MinInt} {
		cells = append(cells, [2]int{n, 0}, [2]int{0, n}, [2]int{n, 3}, [2]int{3, n}, [2]int{n, n})
	}
	return append(cells, [2]int{-1, 4}, [2]int{1, -1}, [2]int{2, 4}, [2]int{0, 15})
}

func worth(t int) int { return int(math.Pow(2, float64(t))) }

// tilesOf returns all tiles of a Board.
func tilesOf(b impl.Board) []int {
	tiles := []int{}
	for cell := range 16 {
		if t := b.Rows[cell/4][cell%4]; t != 0 {
			tiles = append(tiles, t)
		}
	}
	return tiles
}

func plainSum(b impl.Board) int {
	sum := 0
	for _, t := range tilesOf(b) {
		sum += worth(t)
	}
	return sum
}

// neighborsOf returns the numbers of each two cells side by side in a row or column.
func neighborsOf(b impl.Board) [][2]int {
	pairs := [][2]int{}
	for r := range 4 {
		for c := range 4 {
			if c < 3 {
				pairs = append(pairs, [2]int{b.Rows[r][c], b.Rows[r][c+1]})
			}
			if r < 3 {
				pairs = append(pairs, [2]int{b.Rows[r][c], b.Rows[r+1][c]})
			}
		}
	}
	return pairs
}

func plainPairs(b impl.Board) int {
	pairs := 0
	for _, p := range neighborsOf(b) {
		if p[0] == p[1] && p[0] != 0 && p[0] != impl.MaxTile {
			pairs++
		}
	}
	return pairs
}

// lineCells returns the cells of a line, from the side to which a slide goes on.
func lineCells(direction int, i int) [4][2]int {
	switch direction {
	case left:
		return [4][2]int{{i, 0}, {i, 1}, {i, 2}, {i, 3}}
	case up:
		return [4][2]int{{0, i}, {1, i}, {2, i}, {3, i}}
	case right:
		return [4][2]int{{i, 3}, {i, 2}, {i, 1}, {i, 0}}
	}
	return [4][2]int{{3, i}, {2, i}, {1, i}, {0, i}}
}

func plainLine(b impl.Board, direction int, i int) [4]int {
	line := [4]int{}
	for k, cell := range lineCells(direction, i) {
		line[k] = b.Rows[cell[0]][cell[1]]
	}
	return line
}

// plainSlide returns the Board behind a slide, its score and the number of its mergers.
func plainSlide(b impl.Board, direction int) (impl.Board, int, int) {
	slid, score, merged := plainMergers(b, direction)
	return slid, score, len(merged)
}

// plainMergers moves tile after tile, each one as far as it gets, and marks what has merged. It
// returns the Board behind the slide, its score, and the cells behind it that are marked.
func plainMergers(b impl.Board, direction int) (impl.Board, int, [][2]int) {
	score, merged := 0, [][2]int(nil)
	for i := range 4 {
		cells := lineCells(direction, i)
		at := func(k int) *int { return &b.Rows[cells[k][0]][cells[k][1]] }
		marked := [4]bool{}
		for from := 1; from < 4; from++ {
			for k := from; k > 0 && *at(k) != 0; k-- {
				if *at(k - 1) == 0 {
					*at(k - 1), *at(k) = *at(k), 0
					continue
				}
				if *at(k - 1) == *at(k) && !marked[k-1] && *at(k) != impl.MaxTile {
					*at(k - 1), *at(k) = *at(k)+1, 0
					marked[k-1] = true
					score += worth(*at(k - 1))
					merged = append(merged, cells[k-1])
				}
				break
			}
		}
	}
	return b, score, merged
}

func plainMoves(b impl.Board) []int {
	moves := []int{}
	for direction := range 4 {
		if slid, _, _ := plainSlide(b, direction); slid != b {
			moves = append(moves, direction)
		}
	}
	return moves
}

func TestIsBoard(t *testing.T) {
	for _, b := range sampleBoards() {
		if !impl.IsBoard(b) {
			t.Errorf("not valid: %v", b)
		}
	}
	for cell := range 16 {
		for n := 0; n <= impl.MaxTile; n++ {
			b := impl.Board{}
			b.Rows[cell/4][cell%4] = n
			if !impl.IsBoard(b) {
				t.Errorf("not valid: %v", b)
			}
		}
	}
	for _, b := range wrongBoards() {
		if impl.IsBoard(b) {
			t.Errorf("valid: %v", b)
		}
	}
}

func TestSlideOfARow(t *testing.T) {
	cases := []struct {
		row, left, right string
		score, mergers   int
	}{
		{"....", "....", "....", 0, 0},
		{"a...", "a...", "...a", 0, 0},
		{".a..", "a...", "...a", 0, 0},
		{"...q", "q...", "...q", 0, 0},
		{"ab..", "ab..", "..ab", 0, 0},
		{"a..b", "ab..", "..ab", 0, 0},
		{"aa..", "b...", "...b", 4, 1},
		{"a..a", "b...", "...b", 4, 1},
		{".a.a", "b...", "...b", 4, 1},
		{"aaa.", "ba..", "..ab", 4, 1},
		{"a.aa", "ba..", "..ab", 4, 1},
		{"aaaa", "bb..", "..bb", 8, 2},
		{"aaab", "bab.", ".abb", 4, 1},
		{"baaa", "bba.", ".bab", 4, 1},
		{"aab.", "bb..", "..bb", 4, 1},
		{"baa.", "bb..", "..bb", 4, 1},
		{"aabb", "bc..", "..bc", 12, 2},
		{"aabc", "bbc.", ".bbc", 4, 1},
		{"aaba", "bba.", ".bba", 4, 1},
		{"abaa", "abb.", ".abb", 4, 1},
		{"abba", "aca.", ".aca", 8, 1},
		{"abab", "abab", "abab", 0, 0},
		{"ab.a", "aba.", ".aba", 0, 0},
		{"pp..", "q...", "...q", 131072, 1},
		{"ppp.", "qp..", "..pq", 131072, 1},
		{"pppp", "qq..", "..qq", 262144, 2},
		{"ppq.", "qq..", "..qq", 131072, 1},
		{"qq..", "qq..", "..qq", 0, 0},
		{"q..q", "qq..", "..qq", 0, 0},
		{"qqq.", "qqq.", ".qqq", 0, 0},
		{"qqqq", "qqqq", "qqqq", 0, 0},
		{"qqpp", "qqq.", ".qqq", 131072, 1},
		{"qaaq", "qbq.", ".qbq", 4, 1},
		{"oop.", "pp..", "..pp", 65536, 1},
	}
	for _, c := range cases {
		b := boardOf(c.row)
		checkSlide(t, b, left, boardOf(c.left), c.score, c.mergers)
		checkSlide(t, b, right, boardOf(c.right), c.score, c.mergers)
	}
}

func checkSlide(t *testing.T, b impl.Board, direction int, want impl.Board, score int, mergers int) {
	t.Helper()
	if slid, s, ok := impl.SlideBoard(b, direction); !ok || slid != want || s != score {
		t.Errorf("SlideBoard(%v, %d) = %v, %d, %v, not %v, %d", b, direction, slid, s, ok, want, score)
	}
	if m, ok := impl.MergersOf(b, direction); !ok || m != mergers {
		t.Errorf("MergersOf(%v, %d) = %d, %v, not %d", b, direction, m, ok, mergers)
	}
}

func TestSlideToEachSide(t *testing.T) {
	cases := []struct {
		board          string
		slid           [4]string
		scores, merged [4]int
	}{
		{
			emptyText, [4]string{emptyText, emptyText, emptyText, emptyText}, [4]int{}, [4]int{},
		},
		{
			"a.b./..../..../....",
			[4]string{"ab../..../..../....", "a.b./..../..../....", "..ab/..../..../....", "..../..../..../a.b."},
			[4]int{}, [4]int{},
		},
		{
			"aab./a.../b..c/b.cc",
			[4]string{"bb../a.../bc../bd..", "babd/c.c./..../....", "..bb/...a/..bc/..bd", "..../..../b.b./cacd"},
			[4]int{20, 28, 20, 28}, [4]int{2, 3, 2, 3},
		},
		{
			"aaaa/aaaa/aaaa/aaaa",
			[4]string{"bb../bb../bb../bb..", "bbbb/bbbb/..../....", "..bb/..bb/..bb/..bb", "..../..../bbbb/bbbb"},
			[4]int{32, 32, 32, 32}, [4]int{8, 8, 8, 8},
		},
		{
			"qa../qa../qb../qc..",
			[4]string{"qa../qa../qb../qc..", "qb../qb../qc../q...", "..qa/..qa/..qb/..qc", "q.../qb../qb../qc.."},
			[4]int{0, 4, 0, 4}, [4]int{0, 1, 0, 1},
		},
		{
			"a.../a.../a.../....",
			[4]string{"a.../a.../a.../....", "b.../a.../..../....", "...a/...a/...a/....", "..../..../a.../b..."},
			[4]int{0, 4, 0, 4}, [4]int{0, 1, 0, 1},
		},
	}
	for _, c := range cases {
		for direction := range 4 {
			checkSlide(t, boardOf(c.board), direction, boardOf(c.slid[direction]), c.scores[direction], c.merged[direction])
		}
	}
}

// rowWith returns one of the 18^4 rows.
func rowWith(number int) [4]int {
	number %= 104976
	return [4]int{number / 5832, number / 324 % 18, number / 18 % 18, number % 18}
}

func TestSlideOfEachLine(t *testing.T) {
	for number := range 104976 {
		b := impl.Board{}
		for r := range 4 {
			// The factors spread the four rows, and each row comes in each place once.
			b.Rows[r] = rowWith(number*[4]int{1, 5, 7, 11}[r] + 26245*r)
		}
		for direction := range 4 {
			turned := b
			if direction == up || direction == down {
				turned = columnsOf(b)
			}
			slid, score, mergers := plainSlide(turned, direction)
			checkSlide(t, turned, direction, slid, score, mergers)
		}
		if t.Failed() {
			return
		}
	}
}

// columnsOf makes columns of the rows.
func columnsOf(b impl.Board) impl.Board {
	other := impl.Board{}
	for i := range 4 {
		other.Rows[i] = plainLine(b, up, i)
	}
	return other
}

func TestSlidesOfSamples(t *testing.T) {
	for _, b := range sampleBoards() {
		for direction := range 4 {
			slid, score, mergers := plainSlide(b, direction)
			checkSlide(t, b, direction, slid, score, mergers)
		}
	}
}

// Promise 2.
func TestASlideKeepsTheSumAndMergesWhatGetsFewer(t *testing.T) {
	for _, b := range sampleBoards() {
		for direction := range 4 {
			slid, score, ok := impl.SlideBoard(b, direction)
			mergers, counted := impl.MergersOf(b, direction)
			before, fine := impl.SumOf(b)
			behind, good := impl.SumOf(slid)
			if !ok || !counted || !fine || !good || before != behind || plainSum(slid) != plainSum(b) {
				t.Errorf("%v to %d: the sum is %d before and %d behind", b, direction, before, behind)
			}
			if fewer := len(tilesOf(b)) - len(tilesOf(slid)); mergers != fewer {
				t.Errorf("%v to %d: %d tiles fewer and %d mergers", b, direction, fewer, mergers)
			}
			if score < 4*mergers || (score == 0) != (mergers == 0) || !impl.IsBoard(slid) {
				t.Errorf("%v to %d: the score %d with %d mergers makes %v", b, direction, score, mergers, slid)
			}
		}
	}
}

func TestASecondSlideIsAMoveOnlyBehindMergers(t *testing.T) {
	moved := 0
	for _, b := range sampleBoards() {
		for direction := range 4 {
			slid, _, _ := impl.SlideBoard(b, direction)
			mergers, _ := impl.MergersOf(b, direction)
			moves, ok := impl.MovesOf(slid)
			if !ok || mergers == 0 && slices.Contains(moves, direction) {
				t.Errorf("%v to %d twice: %v, %v", b, direction, moves, ok)
			}
			if slices.Contains(moves, direction) {
				moved++
			}
		}
	}
	if moved == 0 {
		t.Error("no second slide is a move")
	}
}

func TestASlideLeavesNoGap(t *testing.T) {
	for _, b := range sampleBoards() {
		for direction := range 4 {
			slid, _, _ := impl.SlideBoard(b, direction)
			for i := range 4 {
				line := plainLine(slid, direction, i)
				for k := 1; k < 4; k++ {
					if line[k-1] == 0 && line[k] != 0 {
						t.Errorf("%v to %d: the line %v", b, direction, line)
					}
				}
			}
		}
	}
}

func TestMovesOf(t *testing.T) {
	cases := map[string][]int{
		emptyText:             {},
		"a.../..../..../....": {right, down},
		"...a/..../..../....": {left, down},
		"..../..../..../a...": {up, right},
		"..../..../..../...a": {left, up},
		"..../.a../..../....": {left, up, right, down},
		"aa../..../..../....": {left, right, down},
		"ab../..../..../....": {right, down},
		"aab./..../..../c...": {left, up, right, down},
		"abcd/efgh/ijkl/mnop": {},
		"abab/baba/abab/baba": {},
		"aaba/baba/abab/baba": {left, up, right, down},
		"abab/baba/abab/babb": {left, up, right, down},
		"abcd/efgh/ijkl/mnoo": {left, right},
		"abcd/efgh/ijkl/mnol": {up, down},
		"qqqq/qqqq/qqqq/qqqq": {},
		"qqqq/qqqq/qqqq/qqq.": {right, down},
		"qqqq/qqqq/qqqq/qqpp": {left, right},
		"pppp/qqqq/pppp/qqqq": {left, right},
		"aaaa/aaaa/aaaa/aaaa": {left, up, right, down},
		"a.../b.../c.../d...": {right},
		"...a/...b/...c/...d": {left},
		"abcd/..../..../....": {down},
		"..../..../..../abcd": {up},
	}
	for text, want := range cases {
		if moves, ok := impl.MovesOf(boardOf(text)); !ok || !slices.Equal(moves, want) {
			t.Errorf("MovesOf %s = %v, %v, not %v", text, moves, ok, want)
		}
		if over, ok := impl.IsOver(boardOf(text)); !ok || over != (len(want) == 0) {
			t.Errorf("IsOver %s = %v, %v", text, over, ok)
		}
	}
	for _, b := range sampleBoards() {
		if moves, ok := impl.MovesOf(b); !ok || !slices.Equal(moves, plainMoves(b)) {
			t.Errorf("MovesOf(%v) = %v, %v", b, moves, ok)
		}
	}
}

func TestIsOverIsToldByCells(t *testing.T) {
	many := 0
	for _, b := range sampleBoards() {
		tiles := len(tilesOf(b))
		want := tiles == 0 || tiles == 16 && plainPairs(b) == 0
		if want {
			many++
		}
		if over, ok := impl.IsOver(b); !ok || over != want {
			t.Errorf("IsOver(%v) = %v, %v", b, over, ok)
		}
	}
	if many < 10 {
		t.Error("only", many, "Boards are over")
	}
}

func TestMergersOfOppositeDirections(t *testing.T) {
	for _, b := range sampleBoards() {
		for direction := range 2 {
			there, ok := impl.MergersOf(b, direction)
			back, fine := impl.MergersOf(b, direction+2)
			if !ok || !fine || there != back {
				t.Errorf("%v: %d mergers to %d, and %d back", b, there, direction, back)
			}
		}
	}
}

func TestEmptyCells(t *testing.T) {
	cases := map[string][][2]int{
		"abcd/efgh/ijkl/mnop": {},
		"qqqq/qqqq/qqqq/qqqq": {},
		".bcd/efgh/ijkl/mnop": {{0, 0}},
		"abcd/efgh/ijkl/mno.": {{3, 3}},
		"abc./ef.h/.jkl/m..p": {{0, 3}, {1, 2}, {2, 0}, {3, 1}, {3, 2}},
	}
	for text, want := range cases {
		if cells, ok := impl.EmptyCells(boardOf(text)); !ok || !slices.Equal(cells, want) {
			t.Errorf("EmptyCells %s = %v, %v", text, cells, ok)
		}
	}
	for _, b := range sampleBoards() {
		want := [][2]int{}
		for cell := range 16 {
			if b.Rows[cell/4][cell%4] == 0 {
				want = append(want, [2]int{cell / 4, cell % 4})
			}
		}
		if cells, ok := impl.EmptyCells(b); !ok || !slices.Equal(cells, want) {
			t.Errorf("EmptyCells(%v) = %v, %v", b, cells, ok)
		}
	}
}

func TestPutTileAndTakeTile(t *testing.T) {
	for i, b := range sampleBoards() {
		for cell := range 16 {
			r, c := cell/4, cell%4
			tile := b.Rows[r][c]
			other := b
			if tile == 0 {
				other.Rows[r][c] = 1 + (i+cell)%impl.MaxTile
				checkPut(t, b, [2]int{r, c}, other.Rows[r][c], other, true)
				checkTake(t, b, [2]int{r, c}, impl.Board{}, 0, false)
			} else {
				other.Rows[r][c] = 0
				checkPut(t, b, [2]int{r, c}, tile, impl.Board{}, false)
				checkPut(t, b, [2]int{r, c}, 1, impl.Board{}, false)
				checkTake(t, b, [2]int{r, c}, other, tile, true)
			}
		}
	}
}

func checkPut(t *testing.T, b impl.Board, cell [2]int, tile int, want impl.Board, fine bool) {
	t.Helper()
	if put, ok := impl.PutTile(b, cell, tile); ok != fine || put != want {
		t.Errorf("PutTile(%v, %v, %d) = %v, %v", b, cell, tile, put, ok)
	}
}

func checkTake(t *testing.T, b impl.Board, cell [2]int, want impl.Board, tile int, fine bool) {
	t.Helper()
	if rest, taken, ok := impl.TakeTile(b, cell); ok != fine || rest != want || taken != tile {
		t.Errorf("TakeTile(%v, %v) = %v, %d, %v", b, cell, rest, taken, ok)
	}
}

func TestEachTileIsPutAndTaken(t *testing.T) {
	for _, b := range []impl.Board{{}, boardOf("ab.q/..../q..a/.c.."), boardOf("qqqq/qqqq/qqqq/qqq.")} {
		for cell := range 16 {
			r, c := cell/4, cell%4
			for tile := 1; tile <= impl.MaxTile && b.Rows[r][c] == 0; tile++ {
				put := b
				put.Rows[r][c] = tile
				checkPut(t, b, [2]int{r, c}, tile, put, true)
				checkTake(t, put, [2]int{r, c}, b, tile, true)
			}
		}
	}
}

func TestPutTileAndTakeTileRefuse(t *testing.T) {
	for _, b := range []impl.Board{{}, boardOf("ab.q/..../q..a/.c.."), fullOf(1), fullOf(impl.MaxTile)} {
		for _, cell := range wrongCells() {
			checkPut(t, b, cell, 1, impl.Board{}, false)
			checkTake(t, b, cell, impl.Board{}, 0, false)
		}
		for _, tile := range append(wrongNumbers(), 0) {
			for cell := range 16 {
				checkPut(t, b, [2]int{cell / 4, cell % 4}, tile, impl.Board{}, false)
			}
		}
	}
}

func TestSumOf(t *testing.T) {
	cases := map[string]int{
		emptyText:             0,
		"a.../..../..../....": 2,
		"..../..../..../...q": 131072,
		"aab./..../..../c...": 16,
		"abcd/efgh/ijkl/mnop": 131070,
		"aaaa/aaaa/aaaa/aaaa": 32,
		"qqqq/qqqq/qqqq/qqqq": 2097152,
	}
	for text, want := range cases {
		if sum, ok := impl.SumOf(boardOf(text)); !ok || sum != want {
			t.Errorf("SumOf %s = %d, %v", text, sum, ok)
		}
	}
	for _, b := range sampleBoards() {
		if sum, ok := impl.SumOf(b); !ok || sum != plainSum(b) {
			t.Errorf("SumOf(%v) = %d, %v", b, sum, ok)
		}
	}
}

func TestHighestTile(t *testing.T) {
	cases := []struct {
		board string
		tile  int
		cell  [2]int
	}{
		{"a.../..../..../....", 1, [2]int{0, 0}},
		{"..../..../..../...a", 1, [2]int{3, 3}},
		{"..b./...b/b.../....", 2, [2]int{0, 2}},
		{"..../...b/b.../....", 2, [2]int{1, 3}},
		{"abcd/efgh/ijkl/mnop", 16, [2]int{3, 3}},
		{"abcd/eqgh/ijql/qnop", 17, [2]int{1, 1}},
		{"qqqq/qqqq/qqqq/qqqq", 17, [2]int{0, 0}},
		{"pppp/pppp/pppp/pppq", 17, [2]int{3, 3}},
		{"aaaa/aaaa/..../.bb.", 2, [2]int{3, 1}},
	}
	for _, c := range cases {
		if tile, cell, ok := impl.HighestTile(boardOf(c.board)); !ok || tile != c.tile || cell != c.cell {
			t.Errorf("HighestTile %s = %d, %v, %v", c.board, tile, cell, ok)
		}
	}
	if tile, cell, ok := impl.HighestTile(impl.Board{}); ok || tile != 0 || cell != [2]int{} {
		t.Errorf("HighestTile of the empty Board = %d, %v, %v", tile, cell, ok)
	}
}

func TestHighestTileOfSamples(t *testing.T) {
	for _, b := range sampleBoards() {
		tiles := tilesOf(b)
		if len(tiles) == 0 {
			continue
		}
		tile, cell, ok := impl.HighestTile(b)
		if !ok || tile != slices.Max(tiles) || b.Rows[cell[0]][cell[1]] != tile {
			t.Errorf("HighestTile(%v) = %d, %v, %v", b, tile, cell, ok)
		}
		for before := range cell[0]*4 + cell[1] {
			if b.Rows[before/4][before%4] == tile {
				t.Errorf("HighestTile(%v): %v is not the first cell", b, cell)
			}
		}
	}
}

func TestCountTiles(t *testing.T) {
	for _, b := range sampleBoards() {
		want := [18]int{}
		for _, tile := range tilesOf(b) {
			want[tile]++
		}
		want[0] = 16 - len(tilesOf(b))
		if counts, ok := impl.CountTiles(b); !ok || counts != want {
			t.Errorf("CountTiles(%v) = %v, %v", b, counts, ok)
		}
	}
	for n := 0; n <= impl.MaxTile; n++ {
		if counts, ok := impl.CountTiles(fullOf(n)); !ok || counts[n] != 16 {
			t.Errorf("16 of %d: %v, %v", n, counts, ok)
		}
	}
}

func TestLineOf(t *testing.T) {
	b := boardOf("abcd/efgh/ijkl/mnop")
	want := [4][4]string{
		{"abcd", "efgh", "ijkl", "mnop"},
		{"aeim", "bfjn", "cgko", "dhlp"},
		{"dcba", "hgfe", "lkji", "ponm"},
		{"miea", "njfb", "okgc", "plhd"},
	}
	for direction := range 4 {
		for i := range 4 {
			line, ok := impl.LineOf(b, direction, i)
			if !ok || line != boardOf(want[direction][i]).Rows[0] {
				t.Errorf("LineOf %d in direction %d = %v, %v", i, direction, line, ok)
			}
		}
	}
	for _, b := range sampleBoards() {
		for direction := range 4 {
			for i := range 4 {
				if line, ok := impl.LineOf(b, direction, i); !ok || line != plainLine(b, direction, i) {
					t.Errorf("LineOf(%v, %d, %d) = %v, %v", b, direction, i, line, ok)
				}
			}
		}
	}
}

func TestLineOfRefusesOtherLines(t *testing.T) {
	for _, b := range []impl.Board{{}, fullOf(1), boardOf("abcd/efgh/ijkl/mnop")} {
		for direction := range 4 {
			for _, i := range []int{-1, 4, 5, -4, 1 << 32, math.MaxInt, math.MinInt} {
				if line, ok := impl.LineOf(b, direction, i); ok || line != [4]int{} {
					t.Errorf("LineOf(%v, %d, %d) = %v, %v", b, direction, i, line, ok)
				}
			}
		}
	}
}

func TestEqualPairs(t *testing.T) {
	cases := map[string]int{
		emptyText:             0,
		"aa../..../..../....": 1,
		"a.a./..../..../....": 0,
		"aaa./..../..../....": 2,
		"aaaa/..../..../....": 3,
		"a.../a.../..../....": 1,
		"a.../..../a.../....": 0,
		"a.../.a../..a./...a": 0,
		"...a/a.../..../....": 0,
		"...q/...q/..../....": 0,
		"qqqq/qqqq/qqqq/qqqq": 0,
		"pppp/qqqq/qqqq/pppp": 6,
		"aaaa/aaaa/aaaa/aaaa": 24,
		"abab/baba/abab/baba": 0,
		"abcd/efgh/ijkl/mnoo": 1,
		"abcd/efgh/ijkl/mnol": 1,
		"aab./..../..../c...": 1,
	}
	for text, want := range cases {
		if pairs, ok := impl.EqualPairs(boardOf(text)); !ok || pairs != want {
			t.Errorf("EqualPairs %s = %d, %v", text, pairs, ok)
		}
	}
	for _, b := range sampleBoards() {
		if pairs, ok := impl.EqualPairs(b); !ok || pairs != plainPairs(b) {
			t.Errorf("EqualPairs(%v) = %d, %v", b, pairs, ok)
		}
	}
}

// cellsOf returns all numbers of a Board, in order.
func cellsOf(b impl.Board) []int {
	return slices.Concat(b.Rows[0][:], b.Rows[1][:], b.Rows[2][:], b.Rows[3][:])
}

func TestLessBoard(t *testing.T) {
	boards := []impl.Board{
		{}, fullOf(1), fullOf(2), fullOf(impl.MaxTile), boardOf("q.../..../..../...."),
		boardOf("..../..../..../...q"), boardOf("..../..../..../...a"), boardOf("a.../qqqq/qqqq/qqqq"),
		boardOf("aq../..../..../...."), boardOf("abab/baba/abab/baba"), boardOf("abab/baba/abac/a..."),
	}
	boards = append(boards, sampleBoards()[500:640]...)
	for cell := range 16 {
		b := fullOf(3)
		for _, n := range []int{2, 4} {
			b.Rows[cell/4][cell%4] = n
			boards = append(boards, b)
		}
	}
	for _, a := range boards {
		for _, b := range boards {
			want := slices.Compare(cellsOf(a), cellsOf(b)) < 0
			if less, ok := impl.LessBoard(a, b); !ok || less != want {
				t.Errorf("LessBoard(%v, %v) = %v, %v", a, b, less, ok)
			}
		}
	}
}

func TestBoardText(t *testing.T) {
	for _, text := range []string{
		emptyText, "abcd/efgh/ijkl/mnop", "q.../..../..../....", "..../..../..../...q", "qqqq/qqqq/qqqq/qqqq",
		"aab./..../..../c...", "a.b./.c.d/e.f./.g.h", "ponm/lkji/hgfe/dcba",
	} {
		b := boardOf(text)
		if s, ok := impl.BoardText(b); !ok || s != text {
			t.Errorf("BoardText(%v) = %q, %v", b, s, ok)
		}
		if read, ok := impl.ParseBoard(text); !ok || read != b {
			t.Errorf("ParseBoard(%q) = %v, %v", text, read, ok)
		}
	}
}

func TestTextsOfBoardsAreReadAgain(t *testing.T) {
	for _, b := range sampleBoards() {
		text, ok := impl.BoardText(b)
		if !ok || len(text) != 19 || boardOf(text) != b {
			t.Fatalf("BoardText(%v) = %q, %v", b, text, ok)
		}
		if read, ok := impl.ParseBoard(text); !ok || read != b {
			t.Errorf("ParseBoard(%q) = %v, %v", text, read, ok)
		}
	}
}

func checkUnread(t *testing.T, s string) {
	t.Helper()
	if b, ok := impl.ParseBoard(s); ok || b != (impl.Board{}) {
		t.Errorf("ParseBoard(%.60q) = %v, %v", s, b, ok)
	}
}

func TestParseBoardRefuses(t *testing.T) {
	refused := []string{
		"/", "///", "....", "..../..../....", "..../..../..../...", "..../..../..../.....", "..../..../..../..../",
		"/..../..../..../....", " ..../..../..../....", "..../..../..../.... ", "..../..../..../....\n",
		"..../..../..../..../....", "................", "...................", "///////////////////",
		".... .... .... ....", "....\n....\n....\n....", "....,....,....,....", `....\....\....\....`,
		"...../.../..../....", ".../...../..../....", "..../..../...../...", "abcd/efgh/ijkl/mnor",
		"Abcd/efgh/ijkl/mnop", "ABCD/EFGH/IJKL/MNOP", "abcd/efgh/ijkl/mno ", "abcd/efgh/ijkl/mno0",
		"1234/5678/1234/5678", "0000/0000/0000/0000", "z.../..../..../....", "`.../..../..../....",
		"é../..../..../....", "é.../..../..../....", "\xff.../..../..../....", "..../..../..../...\x00",
		"____/____/____/____", "    /    /    /    ", "abcd/efgh/ijkl/mnop/", "abcd//efgh/ijkl/mno", "ａ/..../..../....",
		strings.Repeat("\x00", 19), strings.Repeat("a", 19), strings.Repeat("a", 1<<20),
	}
	for _, s := range append(refused, strangeTexts()...) {
		checkUnread(t, s)
	}
}

func TestParseBoardReadsJustWhatIsWritten(t *testing.T) {
	for _, text := range []string{emptyText, "abcd/efgh/ijkl/mnop", "qqqq/qqqq/qqqq/qqqq", "aab./..../..../c..."} {
		for place := range len(text) {
			checkUnread(t, text[:place])
			checkUnread(t, text[:place]+text[place+1:])
			checkUnread(t, text[:place]+"."+text[place:])
			for c := range 256 {
				changed := text[:place] + string([]byte{byte(c)}) + text[place+1:]
				isTile := c == '.' || c >= 'a' && c <= 'q'
				if place%5 == 4 && c != '/' || place%5 != 4 && !isTile {
					checkUnread(t, changed)
				} else if b, ok := impl.ParseBoard(changed); !ok || b != boardOf(changed) {
					t.Errorf("ParseBoard(%q) = %v, %v", changed, b, ok)
				}
			}
		}
	}
}

// slideResults tells what the functions with a direction return, and whether they are zero
// values and false.
func slideResults(b impl.Board, direction int) (string, bool) {
	slid, score, one := impl.SlideBoard(b, direction)
	mergers, two := impl.MergersOf(b, direction)
	told, none := fmt.Sprint(slid, score, one, mergers, two), slid == impl.Board{} && score == 0 && mergers == 0 && !one && !two
	for i := range 4 {
		line, ok := impl.LineOf(b, direction, i)
		told += fmt.Sprint(line, ok)
		none = none && line == [4]int{} && !ok
	}
	return told, none
}

// boardResults does the same for the functions of one Board.
func boardResults(b impl.Board) (string, bool) {
	moves, one := impl.MovesOf(b)
	over, two := impl.IsOver(b)
	empty, three := impl.EmptyCells(b)
	sum, four := impl.SumOf(b)
	tile, cell, five := impl.HighestTile(b)
	counts, six := impl.CountTiles(b)
	pairs, seven := impl.EqualPairs(b)
	text, eight := impl.BoardText(b)
	told := fmt.Sprint(moves, one, over, two, empty, three, sum, four, tile, cell, five, counts, six, pairs, seven, text, eight)
	zero := len(moves) == 0 && !over && len(empty) == 0 && sum == 0 && tile == 0 && cell == [2]int{} && counts == [18]int{} && pairs == 0 && text == ""
	return told, zero && !one && !two && !three && !four && !five && !six && !seven && !eight
}

func TestWrongBoardsAreRefused(t *testing.T) {
	for _, b := range wrongBoards() {
		if told, none := boardResults(b); !none {
			t.Errorf("%v: %s", b, told)
		}
		for direction := range 4 {
			if told, none := slideResults(b, direction); !none {
				t.Errorf("%v and the direction %d: %s", b, direction, told)
			}
		}
		for cell := range 16 {
			checkPut(t, b, [2]int{cell / 4, cell % 4}, 1, impl.Board{}, false)
			checkTake(t, b, [2]int{cell / 4, cell % 4}, impl.Board{}, 0, false)
		}
		for _, other := range []impl.Board{{}, fullOf(1), fullOf(impl.MaxTile), b} {
			less, ok := impl.LessBoard(b, other)
			more, fine := impl.LessBoard(other, b)
			if less || ok || more || fine {
				t.Errorf("%v compared with %v: %v, %v, %v, %v", b, other, less, ok, more, fine)
			}
		}
	}
}

func TestWrongDirectionsAreRefused(t *testing.T) {
	boards := []impl.Board{{}, fullOf(1), fullOf(impl.MaxTile), boardOf("aab./..../..../c...")}
	for _, b := range append(boards, wrongBoards()...) {
		for _, direction := range wrongDirections() {
			if told, none := slideResults(b, direction); !none {
				t.Errorf("%v and the direction %d: %s", b, direction, told)
			}
		}
	}
}

// Promise 13.
func TestBoardFunctionsReturnTheSameForTheSame(t *testing.T) {
	for _, b := range append(sampleBoards(), wrongBoards()...) {
		kept := b
		first, _ := boardResults(b)
		if again, _ := boardResults(b); again != first || b != kept {
			t.Errorf("%v: %s, then %s", b, first, again)
		}
		for direction := -1; direction <= 4; direction++ {
			first, _ := slideResults(b, direction)
			if again, _ := slideResults(b, direction); again != first || b != kept {
				t.Errorf("%v to %d: %s, then %s", b, direction, first, again)
			}
		}
	}
}

func TestListsOfBoardsAreNewMemory(t *testing.T) {
	b := boardOf("aab./..../..../c...")
	moves, _ := impl.MovesOf(b)
	cells, _ := impl.EmptyCells(b)
	wantMoves, wantCells := slices.Clone(moves), slices.Clone(cells)
	otherMoves, _ := impl.MovesOf(b)
	otherCells, _ := impl.EmptyCells(b)
	for i := range moves {
		moves[i] = 99
	}
	for i := range cells {
		cells[i] = [2]int{99, 99}
	}
	_ = append(moves[:1], 77)
	nextMoves, _ := impl.MovesOf(b)
	nextCells, _ := impl.EmptyCells(b)
	if len(wantMoves) != 4 || !slices.Equal(otherMoves, wantMoves) || !slices.Equal(nextMoves, wantMoves) {
		t.Error("moves:", otherMoves, nextMoves)
	}
	if len(wantCells) != 12 || !slices.Equal(otherCells, wantCells) || !slices.Equal(nextCells, wantCells) {
		t.Error("empty cells:", otherCells, nextCells)
	}
}
