package tests

import (
	"fmt"
	"math"
	"slices"
	"sync"
	"testing"

	"loop.example/g01194/impl"
)

// world holds for each direction the Boards that moves make of some Boards, and with each one
// all those that it is made of, in order.
type world [4]map[impl.Board][]impl.Board

// boardsOfSum returns all Boards of tiles from low on that have a sum, in order.
func boardsOfSum(low int, sum int) []impl.Board {
	boards := []impl.Board{}
	var fill func(b impl.Board, cell int, rest int)
	fill = func(b impl.Board, cell int, rest int) {
		if rest == 0 {
			boards = append(boards, b)
			return
		}
		if cell == 16 {
			return
		}
		fill(b, cell+1, rest)
		for tile := low; tile <= impl.MaxTile && worth(tile) <= rest; tile++ {
			b.Rows[cell/4][cell%4] = tile
			fill(b, cell+1, rest-worth(tile))
		}
	}
	fill(impl.Board{}, 0, sum)
	return boards
}

func worldOf(boards []impl.Board) world {
	w := world{{}, {}, {}, {}}
	for _, b := range boards {
		for direction := range 4 {
			if slid, _, _ := plainSlide(b, direction); slid != b {
				w[direction][slid] = append(w[direction][slid], b)
			}
		}
	}
	return w
}

// smallBoards holds all Boards with a sum of at most 12, and smallWorld all moves among them:
// slides keep the sum.
var (
	smallBoards = sync.OnceValue(func() []impl.Board {
		boards := []impl.Board{}
		for sum := 0; sum <= 12; sum += 2 {
			boards = append(boards, boardsOfSum(1, sum)...)
		}
		return boards
	})
	smallWorld = sync.OnceValue(func() world { return worldOf(smallBoards()) })
)

// plainBefore returns all Boards that a move in a direction makes a Board of, in order. Each of
// their lines is one of all rows.
func plainBefore(b impl.Board, direction int) []impl.Board {
	boards := []impl.Board{{}}
	for i := range 4 {
		longer := []impl.Board{}
		for _, line := range rowsInto()[plainLine(b, direction, i)] {
			for _, other := range boards {
				for k, cell := range lineCells(direction, i) {
					other.Rows[cell[0]][cell[1]] = line[k]
				}
				longer = append(longer, other)
			}
		}
		boards = longer
	}
	boards = slices.DeleteFunc(boards, func(other impl.Board) bool { return other == b })
	slices.SortFunc(boards, func(x, y impl.Board) int { return slices.Compare(cellsOf(x), cellsOf(y)) })
	return boards
}

// plainWays returns how many Boards are before a Board by each direction.
func plainWays(b impl.Board) [4]int {
	ways := [4]int{}
	for direction := range 4 {
		ways[direction] = 1
		for i := range 4 {
			ways[direction] *= len(rowsInto()[plainLine(b, direction, i)])
		}
		if slid, _, _ := plainSlide(b, direction); slid == b {
			ways[direction]--
		}
	}
	return ways
}

// plainArises takes each tile 1 or 2 away.
func plainArises(b impl.Board) [][2]int {
	cells := [][2]int{}
	for cell := range 16 {
		without := b
		tile := &without.Rows[cell/4][cell%4]
		if *tile != 1 && *tile != 2 {
			continue
		}
		*tile = 0
		if plainWays(without) != [4]int{} {
			cells = append(cells, [2]int{cell / 4, cell % 4})
		}
	}
	return cells
}

// plainMerged returns all cells, in order, that have come out of a merger in each of the moves in
// a direction from some Boards, and all those that have come out of one in some of them.
func plainMerged(before []impl.Board, direction int) ([][2]int, [][2]int) {
	times := map[[2]int]int{}
	for _, other := range before {
		_, _, merged := plainMergers(other, direction)
		for _, cell := range merged {
			times[cell]++
		}
	}
	must, can := [][2]int{}, [][2]int{}
	for number := range 16 {
		cell := [2]int{number / 4, number % 4}
		if times[cell] > 0 {
			can = append(can, cell)
		}
		if times[cell] > 0 && times[cell] == len(before) {
			must = append(must, cell)
		}
	}
	return must, can
}

// checkMerged checks MustMerge and CanMerge, which fail unless they are fine.
func checkMerged(t *testing.T, b impl.Board, direction int, must [][2]int, can [][2]int, fine bool) {
	t.Helper()
	if cells, ok := impl.MustMerge(b, direction); ok != fine || !slices.Equal(cells, must) {
		t.Errorf("MustMerge(%v, %d) = %v, %v, not %v", b, direction, cells, ok, must)
	}
	if cells, ok := impl.CanMerge(b, direction); ok != fine || !slices.Equal(cells, can) {
		t.Errorf("CanMerge(%v, %d) = %v, %v, not %v", b, direction, cells, ok, can)
	}
}

func checkNoBackStep(t *testing.T, b impl.Board, direction int, k int) {
	t.Helper()
	if other, ok := impl.BackStep(b, direction, k); ok || other != (impl.Board{}) {
		t.Errorf("BackStep(%v, %d, %d) = %v, %v", b, direction, k, other, ok)
	}
}

// checkListed checks BoardsBefore and BackStep.
func checkListed(t *testing.T, b impl.Board, direction int, before []impl.Board) {
	t.Helper()
	many := len(before)
	if many > impl.MaxListed {
		if boards, ok := impl.BoardsBefore(b, direction); ok || len(boards) != 0 {
			t.Errorf("BoardsBefore(%v, %d) has %d, %v", b, direction, len(boards), ok)
		}
		checkNoBackStep(t, b, direction, 0)
		checkNoBackStep(t, b, direction, many-1)
		return
	}
	if boards, ok := impl.BoardsBefore(b, direction); !ok || !slices.Equal(boards, before) {
		t.Errorf("BoardsBefore(%v, %d) = %v, %v, not %v", b, direction, boards, ok, before)
	}
	for _, k := range []int{0, many / 3, many - 1} {
		if k < 0 || k >= many {
			continue
		}
		if other, ok := impl.BackStep(b, direction, k); !ok || other != before[k] {
			t.Errorf("BackStep(%v, %d, %d) = %v, %v, not %v", b, direction, k, other, ok, before[k])
		}
	}
	checkNoBackStep(t, b, direction, -1)
	checkNoBackStep(t, b, direction, many)
}

// checkBefore checks all functions of a Board and a direction, given the Boards before it.
func checkBefore(t *testing.T, b impl.Board, direction int, before []impl.Board) {
	t.Helper()
	if count, ok := impl.CountBefore(b, direction); !ok || count != len(before) {
		t.Errorf("CountBefore(%v, %d) = %d, %v, not %d", b, direction, count, ok, len(before))
	}
	want := 0
	for _, other := range before {
		want = max(want, len(tilesOf(other)))
	}
	if most, ok := impl.MostBefore(b, direction); ok != (len(before) > 0) || most != want {
		t.Errorf("MostBefore(%v, %d) = %d, %v, not %d", b, direction, most, ok, want)
	}
	checkListed(t, b, direction, before)
	must, can := plainMerged(before, direction)
	checkMerged(t, b, direction, must, can, len(before) > 0)
}

// checkMade checks the functions of a Board alone, given how many Boards are before it.
func checkMade(t *testing.T, b impl.Board, ways [4]int, arises [][2]int) {
	t.Helper()
	if got, ok := impl.WaysInto(b); !ok || got != ways {
		t.Errorf("WaysInto(%v) = %v, %v, not %v", b, got, ok, ways)
	}
	want := []int{}
	for direction, count := range ways {
		if count > 0 {
			want = append(want, direction)
		}
	}
	if sides, ok := impl.SidesInto(b); !ok || !slices.Equal(sides, want) {
		t.Errorf("SidesInto(%v) = %v, %v, not %v", b, sides, ok, want)
	}
	if made, ok := impl.IsMade(b); !ok || made != (len(want) > 0) {
		t.Errorf("IsMade(%v) = %v, %v", b, made, ok)
	}
	if cells, ok := impl.ArisesBy(b); !ok || !slices.Equal(cells, arises) {
		t.Errorf("ArisesBy(%v) = %v, %v, not %v", b, cells, ok, arises)
	}
}

func TestBackwardsOfSmallBoards(t *testing.T) {
	for i, b := range smallBoards() {
		ways := [4]int{}
		for direction := range 4 {
			before := smallWorld()[direction][b]
			ways[direction] = len(before)
			if len(before) > 0 || i%7 == 0 {
				checkBefore(t, b, direction, before)
			}
		}
		if i%3 == 0 || ways != [4]int{} {
			checkMade(t, b, ways, plainArises(b))
		}
	}
}

// Tiles of MaxTile do not merge, and what is before a Board of them alone has no lower tiles than
// the next ones.
func TestBackwardsOfTheHighestTiles(t *testing.T) {
	boards := []impl.Board{}
	for tiles := 1; tiles <= 3; tiles++ {
		boards = append(boards, boardsOfSum(impl.MaxTile-1, tiles*worth(impl.MaxTile))...)
	}
	high := worldOf(boards)
	for _, b := range boards {
		if slices.Min(tilesOf(b)) < impl.MaxTile {
			continue
		}
		ways := [4]int{}
		for direction := range 4 {
			before := high[direction][b]
			ways[direction] = len(before)
			checkBefore(t, b, direction, before)
		}
		checkMade(t, b, ways, nil)
	}
}

// backSamples returns some of sampleBoards, and what slides make of all of them.
func backSamples() []impl.Board {
	boards := []impl.Board{}
	for i, b := range sampleBoards() {
		if i%7 == 0 {
			boards = append(boards, b)
		}
		slid, _, _ := plainSlide(b, i%4)
		again, _, _ := plainSlide(slid, i/4%4)
		boards = append(boards, slid, again)
	}
	return boards
}

func TestBackwardsOfSamples(t *testing.T) {
	long := 0
	for _, b := range backSamples() {
		ways := plainWays(b)
		for direction, count := range ways {
			if count > impl.MaxListed {
				long++
			}
			if count <= 2*impl.MaxListed || long%20 == 0 {
				checkBefore(t, b, direction, plainBefore(b, direction))
			}
		}
		checkMade(t, b, ways, plainArises(b))
	}
	if long < 100 {
		t.Errorf("only %d lists are too long", long)
	}
}

// linedUp returns the Board with four lines of a direction, each one told from the side to which
// a slide goes on.
func linedUp(direction int, lines ...string) impl.Board {
	b := impl.Board{}
	for i, line := range lines {
		for k, cell := range lineCells(direction, i) {
			b.Rows[cell[0]][cell[1]] = rowOf(line)[k]
		}
	}
	return b
}

// marked returns the cells, in order, that have an x in lines told as linedUp reads them.
func marked(direction int, lines [4]string) [][2]int {
	cells := [][2]int{}
	for i, line := range lines {
		for k := range len(line) {
			if line[k] == 'x' {
				cells = append(cells, lineCells(direction, i)[k])
			}
		}
	}
	slices.SortFunc(cells, func(a, b [2]int) int { return slices.Compare(a[:], b[:]) })
	return cells
}

func TestCountBeforeMostBeforeAndMergedCells(t *testing.T) {
	cases := []struct {
		lines       [4]string
		count, most int
		must, can   [4]string
	}{
		// What slides to itself is not before itself.
		{lines: [4]string{"....", "....", "....", "...."}},
		{lines: [4]string{"abcd", "efgh", "ijkl", "mnop"}},
		{lines: [4]string{"qqqq", "qqqq", "qqqq", "qqqq"}},
		{lines: [4]string{"abab", "....", "baba", "...."}},
		{lines: [4]string{"a...", "....", "....", "...."}, count: 3, most: 1},
		{lines: [4]string{"a...", "a...", "....", "...."}, count: 15, most: 2},
		{lines: [4]string{"b...", "....", "....", "...."}, count: 9, most: 2, can: [4]string{"x..."}},
		{lines: [4]string{"abcd", "b...", "....", "qqqq"}, count: 9, most: 10, can: [4]string{"....", "x..."}},
		{lines: [4]string{"ab..", "....", "....", "...."}, count: 5, most: 2},
		{lines: [4]string{"ba..", "....", "....", "...."}, count: 9, most: 3, can: [4]string{"x..."}},
		{lines: [4]string{"abc.", "....", "....", "...."}, count: 3, most: 3},
		{lines: [4]string{"abd.", "....", "....", "...."}, count: 4, most: 4, can: [4]string{"..x."}},
		{lines: [4]string{"qqq.", "....", "....", "...."}, count: 6, most: 4, can: [4]string{"xxx."}},
		{lines: [4]string{"qq..", "qq..", "qq..", "qq.."}, count: 15*15*15*15 - 1, most: 16, can: [4]string{"xx..", "xx..", "xx..", "xx.."}},
		// What does not slide to itself need not be taken away.
		{lines: [4]string{"bb..", "....", "....", "...."}, count: 9, most: 4, can: [4]string{"xx.."}},
		{lines: [4]string{"bb..", "bb..", "bb..", "bb.."}, count: 9 * 9 * 9 * 9, most: 16, can: [4]string{"xx..", "xx..", "xx..", "xx.."}},
		{lines: [4]string{"bb..", "b...", "....", "...."}, count: 90, most: 6, can: [4]string{"xx..", "x..."}},
		{lines: [4]string{"bba.", "....", "....", "...."}, count: 2, most: 4, can: [4]string{"xx.."}},
		{lines: [4]string{"qpp.", "....", "....", "...."}, count: 2, most: 4, can: [4]string{".xx."}},
		// One row alone is before one of these lines.
		{lines: [4]string{"bbb.", "....", "....", "...."}, count: 1, most: 4, must: [4]string{".x.."}, can: [4]string{".x.."}},
		{lines: [4]string{"....", "ppp.", "....", "...."}, count: 1, most: 4, must: [4]string{"....", ".x.."}, can: [4]string{"....", ".x.."}},
		{lines: [4]string{"abb.", "bbb.", "ccc.", "qqqq"}, count: 1, most: 16, must: [4]string{"..x.", ".x..", ".x.."}, can: [4]string{"..x.", ".x..", ".x.."}},
		{lines: [4]string{"b...", "....", "bcc.", "...."}, count: 10, most: 6, must: [4]string{"....", "....", "..x."}, can: [4]string{"x...", "....", "..x."}},
		{lines: [4]string{"bba.", "qqqq", "....", "bbb."}, count: 2, most: 12, must: [4]string{"....", "....", "....", ".x.."}, can: [4]string{"xx..", "....", "....", ".x.."}},
		// No slide makes these lines: gaps, and tiles that would have merged.
		{lines: [4]string{".a..", "....", "....", "...."}},
		{lines: [4]string{"b...", "b...", "b...", "...b"}},
		{lines: [4]string{"a.b.", "b...", "....", "...."}},
		{lines: [4]string{"b...", "aa..", "....", "...."}},
		{lines: [4]string{"aaaa", "aaaa", "aaaa", "aaaa"}},
		{lines: [4]string{"b...", "b...", "b...", "pppp"}},
	}
	for i, c := range cases {
		for direction := range 4 {
			b := linedUp(direction, c.lines[:]...)
			if count, ok := impl.CountBefore(b, direction); !ok || count != c.count {
				t.Errorf("case %d: CountBefore(%v, %d) = %d, %v", i, b, direction, count, ok)
			}
			if most, ok := impl.MostBefore(b, direction); ok != (c.count > 0) || most != c.most {
				t.Errorf("case %d: MostBefore(%v, %d) = %d, %v", i, b, direction, most, ok)
			}
			checkMerged(t, b, direction, marked(direction, c.must), marked(direction, c.can), c.count > 0)
		}
	}
}

func TestBoardsBefore(t *testing.T) {
	for _, c := range []struct {
		board     string
		direction int
		before    []string
	}{
		{emptyText, left, nil},
		{"abcd/efgh/ijkl/mnop", down, nil},
		{"qqqq/qqqq/qqqq/qqqq", right, nil},
		{"aaaa/aaaa/aaaa/aaaa", up, nil},
		{".a..", left, nil},
		{"a...", right, nil},
		{"a...", left, []string{"...a", "..a.", ".a.."}},
		{"...a", right, []string{"..a.", ".a..", "a..."}},
		{"a...", up, []string{"..../..../..../a...", "..../..../a.../....", "..../a.../..../...."}},
		{"..../..../..../...a", down, []string{"..../..../...a/....", "..../...a/..../....", "...a/..../..../...."}},
		{"b...", left, []string{"...b", "..aa", "..b.", ".a.a", ".aa.", ".b..", "a..a", "a.a.", "aa.."}},
		{"...b", right, []string{"..aa", "..b.", ".a.a", ".aa.", ".b..", "a..a", "a.a.", "aa..", "b..."}},
		{"bba.", left, []string{"aaba", "baaa"}},
		{".abb", right, []string{"aaab", "abaa"}},
		{"bbb.", left, []string{"baab"}},
		// In the order of Boards, not in that of the lines.
		{"..../aa../bb../bb..", down, []string{"aa../aa../aa../bb..", "aa../ab../aa../ba..", "aa../ba../aa../ab..", "aa../bb../aa../aa.."}},
		{"bb../bb../aa../....", up, []string{"aa../aa../bb../aa..", "ab../aa../ba../aa..", "ba../aa../ab../aa..", "bb../aa../aa../aa.."}},
	} {
		before := []impl.Board{}
		for _, text := range c.before {
			before = append(before, boardOf(text))
		}
		checkListed(t, boardOf(c.board), c.direction, before)
	}
}

func TestMaxListed(t *testing.T) {
	if impl.MaxListed != 300 {
		t.Error("MaxListed is", impl.MaxListed)
	}
	for _, c := range []struct {
		lines [4]string
		count int
	}{
		{[4]string{"....", "a...", "bd..", "abd."}, 299},
		{[4]string{"....", "b...", "bd..", "bba."}, 300},
		{[4]string{"a...", "bd..", "abd.", "abb."}, 300},
		// No Board has 301 to 306 before it.
		{[4]string{"....", "a...", "bc..", "bdb."}, 307},
		{[4]string{"a...", "bc..", "bdb.", "abb."}, 308},
		{[4]string{"qq..", "qq..", "qq..", "qq.."}, 50624},
	} {
		for direction := range 4 {
			b := linedUp(direction, c.lines[:]...)
			boards, ok := impl.BoardsBefore(b, direction)
			if ok != (c.count <= 300) || len(boards) != c.count && ok || len(boards) > 300 {
				t.Errorf("BoardsBefore(%v, %d) has %d, %v", b, direction, len(boards), ok)
			}
			for _, k := range []int{0, 1, 298, 299, 300, 306, c.count - 1, c.count} {
				other, ok := impl.BackStep(b, direction, k)
				if ok != (c.count <= 300 && k < c.count) || ok && other != boards[k] || !ok && other != (impl.Board{}) {
					t.Errorf("BackStep(%v, %d, %d) = %v, %v", b, direction, k, other, ok)
				}
			}
			if count, ok := impl.CountBefore(b, direction); !ok || count != c.count {
				t.Errorf("CountBefore(%v, %d) = %d, %v", b, direction, count, ok)
			}
		}
	}
}

// Promise 6.
func TestBoardsBeforeSlideToItAndAreOthers(t *testing.T) {
	all := 0
	for _, b := range backSamples() {
		for direction := range 4 {
			boards, _ := impl.BoardsBefore(b, direction)
			for k, other := range boards {
				slid, _, ok := impl.SlideBoard(other, direction)
				if !ok || slid != b || other == b {
					t.Errorf("%v is before %v by %d, and slides to %v, %v", other, b, direction, slid, ok)
				}
				if k > 0 && !plainLess(boards[k-1], other) {
					t.Errorf("before %v by %d comes %v, then %v", b, direction, boards[k-1], other)
				}
			}
			all += len(boards)
		}
	}
	if all < 20000 {
		t.Errorf("only %d Boards are before the samples", all)
	}
}

// The promise from the other end: what a move makes has the Board that it was before it.
func TestWhatAMoveMakesHasItsBoardBefore(t *testing.T) {
	for _, b := range sampleBoards() {
		for direction := range 4 {
			slid, _, _ := plainSlide(b, direction)
			boards, listed := impl.BoardsBefore(slid, direction)
			count, ok := impl.CountBefore(slid, direction)
			if !ok || listed != (count <= impl.MaxListed) || listed && slices.Contains(boards, b) != (slid != b) {
				t.Errorf("%v slides to %v by %d, with %v before it: %d, %v", b, slid, direction, boards, count, ok)
			}
			if slid != b {
				checkMadeOf(t, slid, b, direction)
			}
		}
	}
}

// checkMadeOf checks what is said of a Board against one Board before it.
func checkMadeOf(t *testing.T, b impl.Board, before impl.Board, direction int) {
	t.Helper()
	sides, _ := impl.SidesInto(b)
	made, _ := impl.IsMade(b)
	most, _ := impl.MostBefore(b, direction)
	if !slices.Contains(sides, direction) || !made || most < len(tilesOf(before)) {
		t.Errorf("%v slides to %v by %d, which has %v, %v, %d", before, b, direction, sides, made, most)
	}
	must, _ := impl.MustMerge(b, direction)
	can, _ := impl.CanMerge(b, direction)
	_, _, merged := plainMergers(before, direction)
	if !hasAll(merged, must) || !hasAll(can, merged) {
		t.Errorf("%v merges %v by %d, and what it makes must merge %v and can merge %v", before, merged, direction, must, can)
	}
}

// hasAll reports whether all cells of a part are among others.
func hasAll(cells [][2]int, part [][2]int) bool {
	for _, cell := range part {
		if !slices.Contains(cells, cell) {
			return false
		}
	}
	return true
}

func TestSidesIntoIsMadeArisesByAndWaysInto(t *testing.T) {
	for _, c := range []struct {
		board  string
		ways   [4]int
		arises [][2]int
	}{
		{board: emptyText},
		// One tile: without it, the Board is empty, which is not made.
		{board: "a...", ways: [4]int{3, 3, 0, 0}},
		{board: "...b", ways: [4]int{0, 9, 9, 0}},
		{board: "..../..../..../c...", ways: [4]int{9, 0, 0, 9}},
		{board: ".a..", ways: [4]int{0, 3, 0, 0}},
		{board: "..../.a../..../...."},
		// The tile that is left is in the middle, or at a side, and not always the new one's.
		{board: "a.../.b../..../....", arises: [][2]int{{1, 1}}},
		{board: "..../.a../..b./...."},
		{board: "b..a", ways: [4]int{0, 39, 0, 0}, arises: [][2]int{{0, 0}, {0, 3}}},
		{board: "c..a", ways: [4]int{0, 39, 0, 0}, arises: [][2]int{{0, 3}}},
		{board: "c..d", ways: [4]int{0, 99, 0, 0}},
		{board: "q..b/..../..../....", ways: [4]int{0, 99, 0, 0}, arises: [][2]int{{0, 3}}},
		{board: "c.../..../..../...b", arises: [][2]int{{3, 3}}},
		{board: "aa..", ways: [4]int{0, 15, 0, 0}, arises: [][2]int{{0, 0}, {0, 1}}},
		// Without the first tile, no side has all the others.
		{board: "aa../a.../..../....", arises: [][2]int{{0, 1}, {1, 0}}},
		{board: "aab.", ways: [4]int{0, 159, 0, 0}, arises: [][2]int{{0, 0}, {0, 1}, {0, 2}}},
		// Full Boards are not made, but arise.
		{board: "abcd/efgh/ijkl/mnop", arises: [][2]int{{0, 0}, {0, 1}}},
		{board: "abcd/efgh/ijkl/mnob", arises: [][2]int{{0, 0}, {0, 1}, {3, 3}}},
		{board: "cdef/gahi/jkbl/mnop"},
		{board: "cdef/ghij/klmn/opqa", arises: [][2]int{{3, 3}}},
		{board: "cdef/ghij/blmn/opqd", arises: [][2]int{{2, 0}}},
		{board: "cdef/ghij/kkbn/opqd"},
		{board: "qqqq/qqqq/qqqq/qqqq"},
		{board: "qqqq/qqqq/qqqq/qqqb", arises: [][2]int{{3, 3}}},
		{board: "aaaa/aaaa/aaaa/aaaa"},
		{board: "bbbb/bbbb/bbbb/bbbb"},
	} {
		checkMade(t, boardOf(c.board), c.ways, c.arises)
	}
}

// The guarantee of the chapter.
func TestBackwardsKeepsTheGuarantee(t *testing.T) {
	for _, b := range backSamples() {
		sides, _ := impl.SidesInto(b)
		for _, direction := range sides {
			for i := range 4 {
				if line := plainLine(b, direction, i); !plainFlush(line) {
					t.Errorf("%v is said to be made by %d, and has the line %v", b, direction, line)
				}
			}
		}
		for direction := range 4 {
			must, _ := impl.MustMerge(b, direction)
			can, _ := impl.CanMerge(b, direction)
			if !hasAll(can, must) {
				t.Errorf("%v must merge %v by %d, and can merge %v", b, must, direction, can)
			}
		}
	}
}

// backResults tells what the functions of one Board and a direction return, and whether they are
// zero values and false.
func backResults(b impl.Board, direction int) (string, bool) {
	count, one := impl.CountBefore(b, direction)
	boards, two := impl.BoardsBefore(b, direction)
	most, three := impl.MostBefore(b, direction)
	must, four := impl.MustMerge(b, direction)
	can, five := impl.CanMerge(b, direction)
	first, six := impl.BackStep(b, direction, 0)
	second, seven := impl.BackStep(b, direction, 1)
	told := fmt.Sprint(count, one, boards, two, most, three, must, four, can, five, first, six, second, seven)
	zero := count == 0 && len(boards) == 0 && most == 0 && len(must) == 0 && len(can) == 0 && first == impl.Board{} && second == impl.Board{}
	return told, zero && !one && !two && !three && !four && !five && !six && !seven
}

// madeResults tells the same of the functions of one Board alone.
func madeResults(b impl.Board) (string, bool) {
	sides, one := impl.SidesInto(b)
	made, two := impl.IsMade(b)
	arises, three := impl.ArisesBy(b)
	ways, four := impl.WaysInto(b)
	told := fmt.Sprint(sides, one, made, two, arises, three, ways, four)
	zero := len(sides) == 0 && !made && len(arises) == 0 && ways == [4]int{}
	return told, zero && !one && !two && !three && !four
}

func TestWrongBoardsHaveNoneBefore(t *testing.T) {
	for _, b := range wrongBoards() {
		if told, none := madeResults(b); !none {
			t.Errorf("%v: %s", b, told)
		}
		for _, direction := range []int{left, up, right, down, -1, 4} {
			if told, none := backResults(b, direction); !none {
				t.Errorf("%v by %d: %s", b, direction, told)
			}
		}
	}
}

// backBoards returns Boards with few, many, too many and no Boards before them.
func backBoards() []impl.Board {
	return append(goodBoards(), boardOf("b..a"), boardOf("bbb."), boardOf("..../..../..../.bba"), boardOf("b.../b.../b.../b..."), boardOf("qqq./aba./..../...."))
}

func TestWrongDirectionsOfBackwardsAreRefused(t *testing.T) {
	for _, direction := range wrongDirections() {
		for _, b := range backBoards() {
			if told, none := backResults(b, direction); !none {
				t.Errorf("%v by %d: %s", b, direction, told)
			}
		}
	}
}

func TestWrongNumbersOfBackStepAreRefused(t *testing.T) {
	for _, b := range backBoards() {
		for direction, count := range plainWays(b) {
			for _, k := range []int{-1, -2, -count, -1 << 32, math.MinInt, count, count + 1, 50624, 50625, 1 << 32, 1 << 62, math.MaxInt} {
				if k < 0 || k >= count {
					checkNoBackStep(t, b, direction, k)
				}
			}
		}
	}
}

// Promise 13.
func TestBackwardsFunctionsReturnTheSameForTheSame(t *testing.T) {
	for i, b := range append(backSamples(), wrongBoards()...) {
		if i%8 > 0 {
			continue
		}
		kept := b
		for direction := range 4 {
			first, _ := backResults(b, direction)
			if again, _ := backResults(b, direction); again != first || b != kept {
				t.Errorf("%v by %d: %s, then %s", b, direction, first, again)
			}
		}
		first, _ := madeResults(b)
		if again, _ := madeResults(b); again != first || b != kept {
			t.Errorf("%v: %s, then %s", b, first, again)
		}
	}
}

func TestListsOfBackwardsAreNewMemory(t *testing.T) {
	a, b := boardOf("b..a"), boardOf("bbb./bb../..../....")
	boards, _ := impl.BoardsBefore(b, left)
	sides, _ := impl.SidesInto(a)
	arises, _ := impl.ArisesBy(a)
	must, _ := impl.MustMerge(b, left)
	can, _ := impl.CanMerge(b, left)
	told := fmt.Sprint(boards, sides, arises, must, can)
	for i := range boards {
		boards[i] = fullOf(9)
	}
	for i := range sides {
		sides[i] = 99
	}
	for _, cells := range [][][2]int{arises, must, can} {
		for i := range cells {
			cells[i] = [2]int{77, 77}
		}
		_ = append(cells[:1], [2]int{66, 66}, [2]int{55, 55})
	}
	_ = append(boards[:1], fullOf(8), fullOf(7))
	_ = append(sides[:1], 88)
	boards, _ = impl.BoardsBefore(b, left)
	sides, _ = impl.SidesInto(a)
	arises, _ = impl.ArisesBy(a)
	must, _ = impl.MustMerge(b, left)
	can, _ = impl.CanMerge(b, left)
	if len(must) != 1 || len(can) != 3 || fmt.Sprint(boards, sides, arises, must, can) != told {
		t.Errorf("%s, and behind the changes %v, %v, %v, %v, %v", told, boards, sides, arises, must, can)
	}
}
