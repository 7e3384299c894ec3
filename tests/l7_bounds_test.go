package tests

import (
	"fmt"
	"math"
	"math/bits"
	"math/rand"
	"slices"
	"sync"
	"testing"

	"loop.example/g01194/impl"
)

// countsFor holds for the half of each even sum the numbers of tiles, at most 16, that have the
// sum: as bits.
var countsFor = sync.OnceValue(func() []uint32 {
	halves := []int{}
	for tile := 1; tile <= impl.MaxTile; tile++ {
		halves = append(halves, worth(tile)/2)
	}
	counts := make([]uint32, 1<<20+1)
	counts[0] = 1
	for half := 1; half < len(counts); half++ {
		for _, one := range halves {
			if one <= half {
				counts[half] |= counts[half-one] << 1 & (1<<17 - 1)
			}
		}
	}
	return counts
})

func isPlainPossible(sum int, many int) bool {
	return sum >= 0 && sum%2 == 0 && many >= 0 && countsFor()[sum/2]>>many&1 == 1
}

// plainLeast returns the least number of tiles, and whether there is one up to 16.
func plainLeast(sum int) (int, bool) {
	if sum%2 != 0 || countsFor()[sum/2] == 0 {
		return 0, false
	}
	return bits.TrailingZeros32(countsFor()[sum/2]), true
}

// plainPacked takes from a sum the greatest tile behind which one tile less suffices.
func plainPacked(sum int) impl.Board {
	b := impl.Board{}
	many, _ := plainLeast(sum)
	for cell := range many {
		tile := impl.MaxTile
		for !isPlainPossible(sum-worth(tile), many-cell-1) {
			tile--
		}
		b.Rows[cell/4][cell%4] = tile
		sum -= worth(tile)
	}
	return b
}

// plainHighestFor returns the greatest tile beside which at most 15 others have the rest of a
// sum that some Board has.
func plainHighestFor(sum int) int {
	for tile := impl.MaxTile; tile >= 1; tile-- {
		if rest := sum - worth(tile); rest >= 0 && countsFor()[rest/2]&(1<<16-1) != 0 {
			return tile
		}
	}
	return 0
}

// plainPotential makes each tile of two that are less by 1.
func plainPotential(b impl.Board) int {
	made := [18]int{}
	for tile := 2; tile <= impl.MaxTile; tile++ {
		made[tile] = 2*made[tile-1] + worth(tile)
	}
	sum := 0
	for _, tile := range tilesOf(b) {
		sum += made[tile]
	}
	return sum
}

// plainSteps2Or4 returns the least and the greatest number of twos and fours that have a sum.
func plainSteps2Or4(sum int) (int, int) {
	least, most := sum, 0
	for fours := 0; 4*fours <= sum; fours++ {
		many := fours + (sum-4*fours)/2
		least, most = min(least, many), max(most, many)
	}
	return least, most
}

func isPlainPacked(b impl.Board) bool {
	tiles := tilesOf(b)
	for i := range tiles {
		if slices.Contains(tiles[:i], tiles[i]) {
			return false
		}
	}
	return true
}

// snakeTexts has, for each number, the letters that the snake meets in markedText.
func snakeTexts() [8]string {
	return [8]string{
		"abcdhgfeijklponm", "dhlpokgcbfjnmiea", "ponmijklhgfeabcd", "mieabfjnokgcdhlp",
		"dcbaefghlkjimnop", "aeimnjfbcgkoplhd", "mnoplkjiefghdcba", "plhdcgkonjfbaeim",
	}
}

func plainSnake(k int) [16][2]int {
	path := [16][2]int{}
	for i, letter := range []byte(snakeTexts()[k]) {
		cell := int(letter - 'a')
		path[i] = [2]int{cell / 4, cell % 4}
	}
	return path
}

// alongSnake returns the numbers of a Board in the order of a snake.
func alongSnake(b impl.Board, k int) []int {
	numbers := []int{}
	for _, cell := range plainSnake(k) {
		numbers = append(numbers, b.Rows[cell[0]][cell[1]])
	}
	return numbers
}

// laidAlong returns the Board that has numbers along a snake.
func laidAlong(numbers []int, k int) impl.Board {
	b := impl.Board{}
	for i, cell := range plainSnake(k) {
		b.Rows[cell[0]][cell[1]] = numbers[i]
	}
	return b
}

// plainSnakes compares each cell of a snake with all those behind it.
func plainSnakes(b impl.Board) []int {
	snakes := []int{}
	for k := range 8 {
		numbers := alongSnake(b, k)
		good := true
		for i, one := range numbers {
			for _, other := range numbers[i+1:] {
				emptyThenTile := one == 0 && other != 0
				tileThenGreater := one != 0 && other > one
				good = good && !emptyThenTile && !tileThenGreater
			}
		}
		if good {
			snakes = append(snakes, k)
		}
	}
	return snakes
}

// plainSnakeBoard lays the greatest tile that is left, again and again.
func plainSnakeBoard(b impl.Board, k int) impl.Board {
	tiles, numbers := tilesOf(b), []int{}
	for len(tiles) > 0 {
		i := slices.Index(tiles, slices.Max(tiles))
		numbers = append(numbers, tiles[i])
		tiles = slices.Delete(tiles, i, i+1)
	}
	return laidAlong(append(numbers, make([]int, 16)...), k)
}

// differentBoards returns Boards whose tiles are all different, some of them full.
func differentBoards() []impl.Board {
	boards := []impl.Board{{}, boardOf(markedText), boardOf("qpon/mlkj/ihgf/edcb"), boardOf("...q")}
	source := rand.New(rand.NewSource(71))
	for i := range 300 {
		b := impl.Board{}
		for cell, tile := range source.Perm(17)[:16] {
			if i%3 == 0 || source.Intn(3) > 0 {
				b.Rows[cell/4][cell%4] = tile + 1
			}
		}
		boards = append(boards, b)
	}
	return boards
}

// boundSamples returns sampleBoards, Boards of different tiles, and such ones as are in order, or
// nearly so, along snakes.
func boundSamples() []impl.Board {
	boards := append(sampleBoards(), differentBoards()...)
	source := rand.New(rand.NewSource(72))
	for i, b := range boards {
		if i%4 > 0 {
			continue
		}
		numbers := alongSnake(plainSnakeBoard(b, 0), 0)
		boards = append(boards, laidAlong(numbers, source.Intn(8)))
		one := source.Intn(15)
		numbers[one], numbers[one+1] = numbers[one+1], numbers[one]
		boards = append(boards, laidAlong(numbers, source.Intn(8)))
	}
	return boards
}

func wrongSums() []int {
	return []int{-1, -2, -4, -131072, -impl.MaxSum, impl.MaxSum + 1, impl.MaxSum + 2, impl.MaxSum + 131072, 2 * impl.MaxSum, 1 << 32, 1<<32 + 2, 1 << 62, math.MaxInt, math.MaxInt - 1, math.MinInt, math.MinInt + 2}
}

// knownSums are the edges of what sums can be, those beside them, and some of all others.
func knownSums() []int {
	sums := []int{}
	for tile := 1; tile <= 21; tile++ {
		for beside := -6; beside <= 6; beside++ {
			for _, times := range []int{1, 3, 15} {
				sums = append(sums, worth(tile)*times+beside)
			}
		}
	}
	for sum := 0; sum <= impl.MaxSum; sum += 1 + sum/600 {
		sums = append(sums, sum)
	}
	return slices.DeleteFunc(sums, func(sum int) bool { return sum < 0 || sum > impl.MaxSum })
}

func TestMaxSum(t *testing.T) {
	if most := plainSum(fullOf(impl.MaxTile)); impl.MaxSum != 2097152 || most != impl.MaxSum {
		t.Error("MaxSum is", impl.MaxSum, "and the greatest sum", most)
	}
}

func TestPotentialOf(t *testing.T) {
	for text, want := range map[string]int{
		emptyText: 0, "a...": 0, "aaaa/aaaa/aaaa/aaaa": 0, "b...": 4, "...c": 16, "d...": 48, "bb..": 8, "cba.": 20, "aab./..../..../c...": 20,
		"q...": 16 * 131072, "qp..": 16*131072 + 15*65536, "qqqq/qqqq/qqqq/qqqq": 256 * 131072,
	} {
		if potential, ok := impl.PotentialOf(boardOf(text)); !ok || potential != want {
			t.Errorf("PotentialOf %s = %d, %v, not %d", text, potential, ok, want)
		}
	}
	for _, b := range boundSamples() {
		if potential, ok := impl.PotentialOf(b); !ok || potential != plainPotential(b) {
			t.Errorf("PotentialOf(%v) = %d, %v, not %d", b, potential, ok, plainPotential(b))
		}
	}
}

// Promise 7, its first part.
func TestTheScoreOfASlideIsWhatThePotentialGrowsBy(t *testing.T) {
	scored := 0
	for _, b := range boundSamples() {
		before, ok := impl.PotentialOf(b)
		for direction := range 4 {
			slid, score, _ := impl.SlideBoard(b, direction)
			behind, fine := impl.PotentialOf(slid)
			if !ok || !fine || behind-before != score {
				t.Errorf("%v to %d: the score %d, and the potentials %d and %d", b, direction, score, before, behind)
			}
			if score > 0 {
				scored++
			}
		}
	}
	if scored < 1000 {
		t.Error("only", scored, "slides score")
	}
}

func checkNoSum(t *testing.T, sum int) {
	t.Helper()
	least, one := impl.LeastTiles(sum)
	b, two := impl.PackedBoard(sum)
	highest, three := impl.HighestFor(sum)
	if one || two || three || least != 0 || b != (impl.Board{}) || highest != 0 {
		t.Errorf("the sum %d: %d, %v, %v, %v, %d, %v", sum, least, one, b, two, highest, three)
	}
}

func TestLeastTilesPackedBoardAndHighestFor(t *testing.T) {
	for _, c := range []struct {
		sum, least int
		packed     string
		highest    int
	}{
		{0, 0, emptyText, 0},
		{2, 1, "a...", 1},
		{4, 1, "b...", 2},
		{6, 2, "ba..", 2},
		{8, 1, "c...", 3},
		{14, 3, "cba.", 3},
		{30, 4, "dcba", 4},
		{62, 5, "edcb/a.../..../....", 5},
		{65536, 1, "p...", 16},
		{131070, 16, "ponm/lkji/hgfe/dcba", 16},
		{131072, 1, "q...", 17},
		{131074, 2, "qa..", 17},
		{196608, 2, "qp..", 17},
		{262140, 16, "qpon/mlkj/ihgf/edcb", 17},
		// Several tiles MaxTile.
		{262144, 2, "qq..", 17},
		{262146, 3, "qqa.", 17},
		{393216, 3, "qqq.", 17},
		{3*131072 + 8190*16, 15, "qqqp/onml/kjih/gfe.", 17},
		{5 * 131072, 5, "qqqq/q.../..../....", 17},
		{15 * 131072, 15, "qqqq/qqqq/qqqq/qqq.", 17},
		{15*131072 + 2, 16, "qqqq/qqqq/qqqq/qqqa", 17},
		{15*131072 + 65536, 16, "qqqq/qqqq/qqqq/qqqp", 17},
		{2097152, 16, "qqqq/qqqq/qqqq/qqqq", 17},
		// More than 16 tiles.
		{262142, 17, "", 0},
		{3*131072 + 131068, 18, "", 0},
		{14*131072 + 14, 17, "", 0},
		{15*131072 + 6, 17, "", 0},
		{15*131072 + 65538, 17, "", 0},
		{2097150, 31, "", 0},
		{2097148, 30, "", 0},
	} {
		if c.least > 16 {
			checkNoSum(t, c.sum)
			continue
		}
		if least, ok := impl.LeastTiles(c.sum); !ok || least != c.least {
			t.Errorf("LeastTiles(%d) = %d, %v, not %d", c.sum, least, ok, c.least)
		}
		if b, ok := impl.PackedBoard(c.sum); !ok || b != boardOf(c.packed) {
			t.Errorf("PackedBoard(%d) = %v, %v, not %s", c.sum, b, ok, c.packed)
		}
		if highest, ok := impl.HighestFor(c.sum); !ok || highest != c.highest {
			t.Errorf("HighestFor(%d) = %d, %v, not %d", c.sum, highest, ok, c.highest)
		}
	}
}

func TestLeastTilesOfAllSums(t *testing.T) {
	none := 0
	for sum := 0; sum <= impl.MaxSum; sum++ {
		want, fine := plainLeast(sum)
		if least, ok := impl.LeastTiles(sum); ok != fine || least != want {
			t.Fatalf("LeastTiles(%d) = %d, %v, not %d, %v", sum, least, ok, want, fine)
		}
		if !fine && sum%2 == 0 {
			none++
		}
	}
	if none == 0 {
		t.Error("no even sum is without a Board")
	}
}

func TestPackedBoardAndHighestForOfManySums(t *testing.T) {
	for _, sum := range knownSums() {
		least, fine := plainLeast(sum)
		if !fine {
			checkNoSum(t, sum)
			continue
		}
		if b, ok := impl.PackedBoard(sum); !ok || b != plainPacked(sum) {
			t.Errorf("PackedBoard(%d) = %v, %v, not %v, with %d tiles", sum, b, ok, plainPacked(sum), least)
		}
		if highest, ok := impl.HighestFor(sum); !ok || highest != plainHighestFor(sum) {
			t.Errorf("HighestFor(%d) = %d, %v, not %d", sum, highest, ok, plainHighestFor(sum))
		}
	}
}

func TestOddAndWrongSumsAreRefused(t *testing.T) {
	for _, sum := range append(wrongSums(), 1, 3, 5, 7, 15, 131071, 131073, 1000001, impl.MaxSum-1) {
		checkNoSum(t, sum)
	}
}

func checkPossible(t *testing.T, sum int, many int, want bool, fine bool) {
	t.Helper()
	if is, ok := impl.IsPossible(sum, many); ok != fine || is != want {
		t.Errorf("IsPossible(%d, %d) = %v, %v, not %v, %v", sum, many, is, ok, want, fine)
	}
}

func TestIsPossible(t *testing.T) {
	for _, c := range []struct{ sum, least, most int }{
		{0, 0, 0}, {2, 1, 1}, {4, 1, 2}, {6, 2, 3}, {8, 1, 4}, {14, 3, 7}, {28, 3, 14}, {30, 4, 15}, {32, 1, 16}, {34, 2, 16},
		{131070, 16, 16}, {131072, 1, 16}, {262144, 2, 16}, {15 * 131072, 15, 16}, {15*131072 + 2, 16, 16}, {2097152, 16, 16},
		// Odd sums, and those for which 16 tiles are too few, are possible for no number of tiles.
		{1, 17, 17}, {7, 17, 17}, {33, 17, 17}, {131073, 17, 17}, {2097151, 17, 17}, {262142, 17, 17}, {15*131072 + 6, 17, 17}, {2097150, 17, 17},
	} {
		for many := 0; many <= 16; many++ {
			checkPossible(t, c.sum, many, many >= c.least && many <= c.most, true)
		}
	}
}

func TestIsPossibleOfManySums(t *testing.T) {
	for _, sum := range knownSums() {
		for many := 0; many <= 16; many++ {
			checkPossible(t, sum, many, isPlainPossible(sum, many), true)
		}
	}
}

// The Boards with a small sum have just the numbers of tiles that are possible, and the highest
// tile of some of them is the one told.
func TestSumsOfAllSmallBoards(t *testing.T) {
	has, highest := map[[2]int]bool{}, map[int]int{}
	for _, b := range smallBoards() {
		tiles := tilesOf(b)
		has[[2]int{plainSum(b), len(tiles)}] = true
		highest[plainSum(b)] = max(highest[plainSum(b)], slices.Max(append(tiles, 0)))
	}
	for sum := 0; sum <= 12; sum++ {
		for many := 0; many <= 16; many++ {
			checkPossible(t, sum, many, has[[2]int{sum, many}], true)
		}
		if got, ok := impl.HighestFor(sum); ok != (sum%2 == 0) || got != highest[sum] {
			t.Errorf("HighestFor(%d) = %d, %v, not %d", sum, got, ok, highest[sum])
		}
	}
}

func TestWrongNumbersOfTilesAreRefused(t *testing.T) {
	for _, many := range []int{-1, 17, 18, -16, 32, 64, 256, 1 << 32, 1<<32 + 1, math.MaxInt, math.MinInt} {
		for _, sum := range append(wrongSums(), 0, 2, 7, 14, 34, 64, 131072, impl.MaxSum) {
			checkPossible(t, sum, many, false, false)
		}
	}
	for _, sum := range wrongSums() {
		for many := 0; many <= 16; many++ {
			checkPossible(t, sum, many, false, false)
		}
	}
}

func checkMovesBetween(t *testing.T, a impl.Board, b impl.Board, least int, most int, fine bool) {
	t.Helper()
	if few, many, ok := impl.MovesBetween(a, b); ok != fine || few != least || many != most {
		t.Errorf("MovesBetween(%v, %v) = %d, %d, %v, not %d, %d, %v", a, b, few, many, ok, least, most, fine)
	}
}

func checkScoreBetween(t *testing.T, a impl.Board, b impl.Board, twos int, want int, fine bool) {
	t.Helper()
	if score, ok := impl.ScoreBetween(a, b, twos); ok != fine || score != want {
		t.Errorf("ScoreBetween(%v, %v, %d) = %d, %v, not %d, %v", a, b, twos, score, ok, want, fine)
	}
}

func TestMovesBetween(t *testing.T) {
	for _, c := range []struct {
		a, b        string
		least, most int
		fine        bool
	}{
		{emptyText, emptyText, 0, 0, true},
		{"a...", "a...", 0, 0, true},
		{"aa..", "...b", 0, 0, true},
		{"qqqq/qqqq/qqqq/qqqq", "qqqq/qqqq/qqqq/qqqq", 0, 0, true},
		{emptyText, "a...", 1, 1, true},
		{emptyText, "b...", 1, 2, true},
		{"a...", "b...", 1, 1, true},
		{emptyText, "ba..", 2, 3, true},
		{emptyText, "c...", 2, 4, true},
		{"b...", "cb..", 2, 4, true},
		{emptyText, "cba.", 4, 7, true},
		// By sums alone, also where no steps lead there.
		{"aaaa/aaaa/aaaa/aaaa", "...e/..../..../...a", 1, 1, true},
		{emptyText, "qqqq/qqqq/qqqq/qqqq", 524288, 1048576, true},
		{"a...", "qqqq/qqqq/qqqq/qqqq", 524288, 1048575, true},
		// A sum that is less.
		{"a...", emptyText, 0, 0, false},
		{"b...", "a...", 0, 0, false},
		{"qqqq/qqqq/qqqq/qqqq", "qqqq/qqqq/qqqq/qqqp", 0, 0, false},
		{"bb..", "aaa.", 0, 0, false},
	} {
		checkMovesBetween(t, boardOf(c.a), boardOf(c.b), c.least, c.most, c.fine)
	}
	boards := sampleBoards()
	for i := 0; i < len(boards); i += 5 {
		b := boards[i]
		for _, other := range []impl.Board{boards[(i*7+3)%len(boards)], {}} {
			more := plainSum(b) - plainSum(other)
			if more < 0 {
				checkMovesBetween(t, other, b, 0, 0, false)
				continue
			}
			least, most := plainSteps2Or4(more)
			checkMovesBetween(t, other, b, least, most, true)
		}
	}
}

func TestScoreBetween(t *testing.T) {
	for _, c := range []struct {
		a, b        string
		twos, score int
	}{
		{emptyText, emptyText, 0, 0},
		{"a...", "a...", 0, 0},
		{emptyText, "cba.", 0, 20},
		{emptyText, "cba.", 1, 16},
		{emptyText, "cba.", 5, 0},
		{"aa..", "...b", 0, 4},
		{"b...", "c...", 1, 8},
		{emptyText, "qqqq/qqqq/qqqq/qqqq", 524288, 256*131072 - 2097152},
		{emptyText, "qqqq/qqqq/qqqq/qqqq", 2097152, 256*131072 - 8388608},
		// By potentials alone, also where no slides score so.
		{emptyText, emptyText, 1, -4},
		{"c...", emptyText, 0, -16},
		{"c...", "aaaa/..../..../....", 2, -24},
		{"qqqq/qqqq/qqqq/qqqq", emptyText, 2097152, -256*131072 - 8388608},
	} {
		checkScoreBetween(t, boardOf(c.a), boardOf(c.b), c.twos, c.score, true)
	}
	boards := sampleBoards()
	for i, b := range boards {
		other := boards[(i*11+5)%len(boards)]
		for _, twos := range []int{0, 1, i, impl.MaxSum} {
			checkScoreBetween(t, other, b, twos, plainPotential(b)-plainPotential(other)-4*twos, true)
		}
	}
}

// Steps that are made are as many, and score as much, as is told by sums and potentials.
func TestMovesAndScoresOfRoads(t *testing.T) {
	source := rand.New(rand.NewSource(73))
	longest := 0
	for _, b := range reachSamples() {
		list, end := randomSteps(source, b, 150)
		longest = max(longest, len(list))
		twos := 0
		for _, s := range list {
			twos += s.Tile - 1
		}
		checkScoreBetween(t, b, end.board, twos, end.score, true)
		least, most, ok := impl.MovesBetween(b, end.board)
		if !ok || len(list) < least || len(list) > most {
			t.Errorf("MovesBetween(%v, %v) = %d, %d, %v, and %d steps lead there", b, end.board, least, most, ok, len(list))
		}
	}
	if longest < 60 {
		t.Errorf("the longest list has %d steps", longest)
	}
}

func TestWrongTwosAreRefused(t *testing.T) {
	for _, twos := range wrongSums() {
		for _, b := range goodBoards() {
			checkScoreBetween(t, impl.Board{}, b, twos, 0, false)
			checkScoreBetween(t, b, b, twos, 0, false)
		}
	}
}

func TestMergersLeft(t *testing.T) {
	for text, want := range map[string]int{
		emptyText: 0, "a...": 0, "aa..": 1, "a..a/..../..../..a.": 1, "aaaa": 3, "abab": 2, "cba.": 0, "aab./..../..../c...": 3,
		"aaaa/aaaa/aaaa/aaaa": 15, "bbbb/bbbb/bbbb/bbbb": 15, "pppp/pppp/pppp/pppp": 8, "qqqq/qqqq/qqqq/qqqq": 0, "q..q/..../..../....": 0,
		"qqpp": 1, "qqqq/qqqq/qqqq/qqpp": 1, "pp..": 1, markedText: 0, "qpon/mlkj/ihgf/edcb": 0, "abab/baba/abab/baba": 14,
	} {
		if left, ok := impl.MergersLeft(boardOf(text)); !ok || left != want {
			t.Errorf("MergersLeft %s = %d, %v, not %d", text, left, ok, want)
		}
	}
	for _, b := range boundSamples() {
		least, fine := plainLeast(plainSum(b))
		if left, ok := impl.MergersLeft(b); !ok || !fine || left != len(tilesOf(b))-least {
			t.Errorf("MergersLeft(%v) = %d, %v, with %d tiles instead of %d", b, left, ok, len(tilesOf(b)), least)
		}
	}
}

func TestNoSlidesMakeMoreMergersThanAreLeft(t *testing.T) {
	all := 0
	for i, b := range reachSamples() {
		left, ok := impl.MergersLeft(b)
		made := 0
		for _, r := range sampleRoads()[i] {
			made = max(made, len(tilesOf(b))-len(tilesOf(r.board)))
		}
		if !ok || made > left {
			t.Errorf("MergersLeft(%v) = %d, %v, and slides make %d", b, left, ok, made)
		}
		if made == left && made > 0 {
			all++
		}
	}
	if all < 30 {
		t.Errorf("only for %d Boards slides make all mergers that are left", all)
	}
}

func TestIsPackedBoard(t *testing.T) {
	for text, want := range map[string]bool{
		emptyText: true, "a...": true, "...q": true, "cba.": true, "aa..": false, "a..a": false, "qq..": false, "..../.b../..../...b": false,
		markedText: true, "qpon/mlkj/ihgf/edcb": true, "abcd/efgh/ijkl/mnoa": false, "abcd/efgh/ijkl/mnoo": false, "qqqq/qqqq/qqqq/qqqq": false,
	} {
		if is, ok := impl.IsPackedBoard(boardOf(text)); !ok || is != want {
			t.Errorf("IsPackedBoard %s = %v, %v", text, is, ok)
		}
	}
	for tile := 1; tile <= impl.MaxTile; tile++ {
		b := impl.Board{}
		b.Rows[0][3], b.Rows[3][1] = tile, tile
		if is, ok := impl.IsPackedBoard(b); !ok || is {
			t.Errorf("IsPackedBoard(%v) = %v, %v", b, is, ok)
		}
	}
	answers := map[bool]int{}
	for _, b := range boundSamples() {
		want := isPlainPacked(b)
		answers[want]++
		if is, ok := impl.IsPackedBoard(b); !ok || is != want {
			t.Errorf("IsPackedBoard(%v) = %v, %v", b, is, ok)
		}
	}
	if answers[true] < 100 || answers[false] < 100 {
		t.Error("one answer is rare:", answers)
	}
}

// The guarantee of the chapter, without its first part.
func TestBoardsOfTheLeastTilesArePackedOrHaveTheHighest(t *testing.T) {
	many := 0
	boards := slices.Concat(boundSamples(), boardsOfSum(16, 3*worth(17)), smallBoards())
	for _, b := range boards {
		sum, _ := impl.SumOf(b)
		least, ok := impl.LeastTiles(sum)
		tiles := tilesOf(b)
		if !ok || least > len(tiles) {
			t.Errorf("%v has the sum %d, for which there are %d, %v", b, sum, least, ok)
		}
		if least < len(tiles) {
			continue
		}
		many++
		packed, _ := impl.IsPackedBoard(b)
		highest := len(slices.DeleteFunc(tiles, func(tile int) bool { return tile < impl.MaxTile }))
		if !packed && highest < 2 {
			t.Errorf("%v has the least number of tiles, and is not packed", b)
		}
	}
	if many < 1000 {
		t.Error("only", many, "Boards have the least number of tiles")
	}
}

func TestSnakePath(t *testing.T) {
	for k := range 8 {
		path, ok := impl.SnakePath(k)
		if !ok || path != plainSnake(k) {
			t.Errorf("SnakePath(%d) = %v, %v, not %v", k, path, ok, plainSnake(k))
		}
		for i, cell := range plainSnake(0) {
			if plainPlace(cell, k) != plainSnake(k)[i] {
				t.Errorf("the test is wrong for %d, whose place %d is that of the form %v", k, i, plainPlace(cell, k))
			}
		}
	}
}

// Promise 7, its second part.
func TestSnakesGoThroughAllCells(t *testing.T) {
	seen := map[[16][2]int]bool{}
	for k := range 8 {
		path, ok := impl.SnakePath(k)
		if !ok || seen[path] {
			t.Errorf("SnakePath(%d) = %v, %v", k, path, ok)
		}
		seen[path] = true
		cells := map[[2]int]bool{}
		for i, cell := range path {
			if cell[0] < 0 || cell[0] > 3 || cell[1] < 0 || cell[1] > 3 || cells[cell] {
				t.Errorf("the snake %d is at %v", k, cell)
			}
			cells[cell] = true
			if i == 0 {
				continue
			}
			far := max(cell[0]-path[i-1][0], path[i-1][0]-cell[0]) + max(cell[1]-path[i-1][1], path[i-1][1]-cell[1])
			if far != 1 {
				t.Errorf("the snake %d goes from %v to %v", k, path[i-1], cell)
			}
		}
		if len(cells) != 16 {
			t.Errorf("the snake %d goes through %d cells", k, len(cells))
		}
	}
}

func checkNoSnake(t *testing.T, b impl.Board, k int) {
	t.Helper()
	if made, ok := impl.SnakeBoard(b, k); ok || made != (impl.Board{}) {
		t.Errorf("SnakeBoard(%v, %d) = %v, %v", b, k, made, ok)
	}
}

func TestWrongSnakesAreRefused(t *testing.T) {
	for _, k := range wrongForms() {
		if path, ok := impl.SnakePath(k); ok || path != [16][2]int{} {
			t.Errorf("SnakePath(%d) = %v, %v", k, path, ok)
		}
		for _, b := range append(goodBoards(), boardOf(markedText)) {
			checkNoSnake(t, b, k)
		}
	}
}

func TestSnakesOf(t *testing.T) {
	all := []int{0, 1, 2, 3, 4, 5, 6, 7}
	for text, want := range map[string][]int{
		emptyText: all, "aaaa/aaaa/aaaa/aaaa": all, "qqqq/qqqq/qqqq/qqqq": all,
		"a...": {0, 5}, "...a": {1, 4}, "..../..../..../a...": {3, 6}, "..../..../..../...a": {2, 7},
		".a..": {}, "..../.a../..../....": {}, "a..a": {}, "aa..": {0}, "..aa": {4}, "a.../a.../..../....": {5}, "aa../a.../..../....": {},
		"cba.": {0}, "abc.": {}, ".abc": {4}, "abcd": {4}, "dcba": {0}, "aaaa": {0, 4}, "..../..../..../qqqq": {2, 6},
		"d.../c.../b.../a...": {5}, "a.../b.../c.../d...": {3}, "...b/...a/..../....": {1}, "..../..../..../..ab": {2}, "..../..../...a/...b": {7}, "..../..../..../ba..": {6},
		"dddd/...c": {0}, "dddd/c...": {4}, "dddd/..../...c/....": {}, "ddd./d.../..../....": {}, "ddd./...d/..../....": {},
		"ponm/ijkl/hgfe/abcd": {0}, "mnop/lkji/efgh/dcba": {4}, "aabb/ccbb/ccdd/eedd": {6}, "aabb/ccbb/ccdd/eeda": {},
		// Full Boards, of which the last number or the first one is another one.
		"bbbb/bbbb/bbbb/abbb": {0, 7}, "bbbb/bbbb/bbbb/.bbb": {0, 7}, ".aaa/aaaa/aaaa/aaaa": {1, 6}, "bbb./bbbb/bbbb/bbbb": {2, 5}, "bbbb/bbbb/bbbb/bbb.": {3, 4},
		"baaa/aaaa/aaaa/aaaa": {0, 5}, "aaaq/aaaa/aaaa/aaaa": {1, 4}, "bbbb/bbbb/bbbb/bbbc": {2, 7}, "bbbb/bbbb/bbbb/cbbb": {3, 6},
		"q.../.qqq/qqqq/qqqq": {},
	} {
		if snakes, ok := impl.SnakesOf(boardOf(text)); !ok || !slices.Equal(snakes, want) {
			t.Errorf("SnakesOf %s = %v, %v, not %v", text, snakes, ok, want)
		}
	}
	answers := map[int]int{}
	for _, b := range boundSamples() {
		want := plainSnakes(b)
		if snakes, ok := impl.SnakesOf(b); !ok || !slices.Equal(snakes, want) {
			t.Errorf("SnakesOf(%v) = %v, %v, not %v", b, snakes, ok, want)
		}
		for _, k := range want {
			answers[k]++
		}
	}
	for k := range 8 {
		if answers[k] < 50 {
			t.Errorf("only %d Boards are in order along the snake %d", answers[k], k)
		}
	}
}

func TestSnakesOfFormsAreFormsOfSnakes(t *testing.T) {
	for i, b := range boundSamples() {
		snakes, _ := impl.SnakesOf(b)
		want := []int{}
		for _, k := range snakes {
			behind, _ := impl.FormBehind(k, i%8)
			want = append(want, behind)
		}
		slices.Sort(want)
		form, _ := impl.FormBoard(b, i%8)
		if others, ok := impl.SnakesOf(form); !ok || !slices.Equal(others, want) {
			t.Errorf("%v has %v, and its form %d has %v, %v", b, snakes, i%8, others, ok)
		}
	}
}

func TestSnakeBoard(t *testing.T) {
	for _, c := range []struct {
		board string
		k     int
		want  string
	}{
		{emptyText, 0, emptyText},
		{emptyText, 7, emptyText},
		{"..../.a../..../....", 0, "a..."},
		{"..../.a../..../....", 1, "...a"},
		{"..../.a../..../....", 2, "..../..../..../...a"},
		{"..../.a../..../....", 3, "..../..../..../a..."},
		{"..../.a../..../....", 4, "...a"},
		{"..../.a../..../....", 5, "a..."},
		{"..../.a../..../....", 6, "..../..../..../a..."},
		{"..../.a../..../....", 7, "..../..../..../...a"},
		{"aab./..../..../c...", 0, "cbaa"},
		{"aab./..../..../c...", 1, "...c/...b/...a/...a"},
		{"aab./..../..../c...", 6, "..../..../..../cbaa"},
		{"aab./q.../..../c...", 0, "qcba/...a/..../...."},
		{"aab./q.../..../c...", 4, "abcq/a.../..../...."},
		{"aab./q.../..../c...", 5, "q.../c.../b.../aa.."},
		{"aab./q.../..../c...", 7, "..aa/...b/...c/...q"},
		{markedText, 0, "ponm/ijkl/hgfe/abcd"},
		{markedText, 5, "piha/ojgb/nkfc/mled"},
		{"qqqq/qqqq/qqqq/qqqq", 3, "qqqq/qqqq/qqqq/qqqq"},
	} {
		if made, ok := impl.SnakeBoard(boardOf(c.board), c.k); !ok || made != boardOf(c.want) {
			t.Errorf("SnakeBoard %s, %d = %v, %v, not %s", c.board, c.k, made, ok, c.want)
		}
	}
}

func TestSnakeBoardOfSamples(t *testing.T) {
	for _, b := range boundSamples() {
		snakes := plainSnakes(b)
		for k := range 8 {
			want := plainSnakeBoard(b, k)
			made, ok := impl.SnakeBoard(b, k)
			if !ok || made != want {
				t.Errorf("SnakeBoard(%v, %d) = %v, %v, not %v", b, k, made, ok, want)
			}
			if (made == b) != slices.Contains(snakes, k) {
				t.Errorf("%v is in order along %v, and the snake %d makes %v", b, snakes, k, made)
			}
			if others, ok := impl.SnakesOf(made); !ok || !slices.Contains(others, k) {
				t.Errorf("SnakesOf(%v) = %v, %v, without %d", made, others, ok, k)
			}
		}
	}
}

// boundResults tells what the functions of one Board return, and whether they are zero values
// and false.
func boundResults(b impl.Board) (string, bool) {
	potential, one := impl.PotentialOf(b)
	few, many, two := impl.MovesBetween(b, b)
	score, three := impl.ScoreBetween(b, b, 1)
	left, four := impl.MergersLeft(b)
	is, five := impl.IsPackedBoard(b)
	snakes, six := impl.SnakesOf(b)
	made, seven := impl.SnakeBoard(b, 0)
	other, eight := impl.SnakeBoard(b, 7)
	told := fmt.Sprint(potential, one, few, many, two, score, three, left, four, is, five, snakes, six, made, seven, other, eight)
	zero := potential == 0 && few == 0 && many == 0 && score == 0 && left == 0 && !is && len(snakes) == 0 && made == impl.Board{} && other == impl.Board{}
	return told, zero && !one && !two && !three && !four && !five && !six && !seven && !eight
}

func TestWrongBoardsHaveNoBounds(t *testing.T) {
	for _, b := range wrongBoards() {
		if told, none := boundResults(b); !none {
			t.Errorf("%v: %s", b, told)
		}
		for k := -1; k <= 8; k++ {
			checkNoSnake(t, b, k)
		}
		for _, good := range []impl.Board{{}, fullOf(1), fullOf(impl.MaxTile), boardOf(markedText)} {
			checkMovesBetween(t, b, good, 0, 0, false)
			checkMovesBetween(t, good, b, 0, 0, false)
			checkScoreBetween(t, b, good, 0, 0, false)
			checkScoreBetween(t, good, b, 3, 0, false)
		}
	}
}

// sumResults tells what the functions of a sum or of a snake return.
func sumResults(n int) string {
	least, one := impl.LeastTiles(n)
	b, two := impl.PackedBoard(n)
	highest, three := impl.HighestFor(n)
	path, four := impl.SnakePath(n)
	told := fmt.Sprint(least, one, b, two, highest, three, path, four)
	for many := range 17 {
		is, ok := impl.IsPossible(n, many)
		told += fmt.Sprint(is, ok)
	}
	return told
}

// Promise 13.
func TestBoundFunctionsReturnTheSameForTheSame(t *testing.T) {
	for _, b := range append(boundSamples(), wrongBoards()...) {
		kept := b
		first, _ := boundResults(b)
		if again, _ := boundResults(b); again != first || b != kept {
			t.Errorf("%v: %s, then %s", b, first, again)
		}
	}
	for _, n := range append(wrongSums(), 0, 1, 2, 3, 4, 5, 6, 7, 8, 14, 131072, impl.MaxSum) {
		first := sumResults(n)
		if again := sumResults(n); again != first {
			t.Errorf("%d: %s, then %s", n, first, again)
		}
	}
}

func TestSnakesAreNewMemory(t *testing.T) {
	b := fullOf(1)
	snakes, _ := impl.SnakesOf(b)
	path, _ := impl.SnakePath(3)
	made, _ := impl.SnakeBoard(boardOf("aab./..../..../c..."), 3)
	told := fmt.Sprint(snakes, path, made)
	for i := range snakes {
		snakes[i] = 99
	}
	_ = append(snakes[:1], 77, 78)
	for i := range path {
		path[i] = [2]int{88, 88}
	}
	made.Rows[0] = [4]int{66, 66, 66, 66}
	snakes, _ = impl.SnakesOf(b)
	path, _ = impl.SnakePath(3)
	made, _ = impl.SnakeBoard(boardOf("aab./..../..../c..."), 3)
	if len(snakes) != 8 || fmt.Sprint(snakes, path, made) != told {
		t.Errorf("%s, and behind the changes %v, %v, %v", told, snakes, path, made)
	}
}
