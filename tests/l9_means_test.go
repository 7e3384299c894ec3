package tests

import (
	"fmt"
	"math"
	"math/big"
	"math/rand"
	"slices"
	"strings"
	"sync"
	"testing"

	"loop.example/g01194/impl"
)

// chancesOfTiles returns how many of ten new tiles are 1, and how many are 2.
func chancesOfTiles() map[int]int64 { return map[int]int64{1: 9, 2: 1} }

// plainChance returns the chance of a placement on a Board with so many empty cells.
func plainChance(p [3]int, empty int) *big.Rat {
	return big.NewRat(chancesOfTiles()[p[2]], int64(10*empty))
}

// plainMean returns the mean of what is told of a Board with each placement.
func plainMean(slid impl.Board, tell func(impl.Board) *big.Rat) *big.Rat {
	mean := new(big.Rat)
	for _, p := range plainPlacements(slid) {
		part := plainChance(p, 16-len(tilesOf(slid)))
		mean.Add(mean, part.Mul(part, tell(plainPlaced(slid, p))))
	}
	return mean
}

func ratIf(is bool) *big.Rat {
	if is {
		return big.NewRat(1, 1)
	}
	return new(big.Rat)
}

func ratMax(rats []*big.Rat) *big.Rat {
	return slices.MaxFunc(rats, (*big.Rat).Cmp)
}

// plainKeeps returns for each move the chance that there are moves for n moves, this one included.
func plainKeeps(b impl.Board, n int) []*big.Rat {
	chances := []*big.Rat{}
	for _, direction := range plainMoves(b) {
		slid, _, _ := plainSlide(b, direction)
		chances = append(chances, plainMean(slid, func(next impl.Board) *big.Rat { return plainKeep(next, n-1) }))
	}
	return chances
}

func plainKeep(b impl.Board, n int) *big.Rat {
	if n < 2 || len(plainMoves(b)) == 0 {
		return ratIf(n == 0 || len(plainMoves(b)) > 0)
	}
	return ratMax(plainKeeps(b, n))
}

// plainScore adds the score of each move to the mean of what comes behind it.
func plainScore(b impl.Board, n int) *big.Rat {
	means := []*big.Rat{}
	for _, direction := range plainMoves(b) {
		slid, score, _ := plainSlide(b, direction)
		mean := big.NewRat(int64(score), 1)
		if n > 1 {
			mean.Add(mean, plainMean(slid, func(next impl.Board) *big.Rat { return plainScore(next, n-1) }))
		}
		means = append(means, mean)
	}
	if n == 0 || len(means) == 0 {
		return new(big.Rat)
	}
	return ratMax(means)
}

// plainRoom returns the mean of the room on a Board behind a move, by what a new tile meets in
// each empty cell.
func plainRoom(slid impl.Board) *big.Rat {
	empty := 16 - len(tilesOf(slid))
	mean := big.NewRat(int64(empty-1+plainPairs(slid)), 1)
	for _, p := range neighborsOf(slid) {
		if low, high := min(p[0], p[1]), max(p[0], p[1]); low == 0 {
			mean.Add(mean, big.NewRat(chancesOfTiles()[high], int64(10*empty)))
		}
	}
	return mean
}

func plainOver(slid impl.Board) *big.Rat {
	chance := new(big.Rat)
	for _, p := range plainDead(slid) {
		chance.Add(chance, plainChance(p, 1))
	}
	return chance
}

func plainMerges(b impl.Board) bool {
	_, rows, _ := plainSlide(b, left)
	_, columns, _ := plainSlide(b, up)
	return rows+columns > 0
}

// plainTile returns the chance that a cell of a Board behind a move has a number with a new tile.
func plainTile(slid impl.Board, cell [2]int, tile int) *big.Rat {
	before := slid.Rows[cell[0]][cell[1]]
	empty := 16 - len(tilesOf(slid))
	switch {
	case before != 0:
		return ratIf(tile == before)
	case tile == 0:
		return big.NewRat(int64(empty-1), int64(empty))
	}
	return big.NewRat(chancesOfTiles()[tile], int64(10*empty))
}

// plainFraction returns a fraction as the program tells it.
func plainFraction(want *big.Rat) [2]int {
	return [2]int{int(want.Num().Int64()), int(want.Denom().Int64())}
}

func ratOf(f [2]int) *big.Rat { return big.NewRat(int64(f[0]), int64(f[1])) }

// noFraction stands for a failure.
func noFraction() *big.Rat { return nil }

// checkFraction checks what a function returns, or that it fails if there is no fraction.
func checkFraction(t *testing.T, told string, f [2]int, ok bool, want *big.Rat) {
	t.Helper()
	if want == nil {
		if ok || f != [2]int{} {
			t.Errorf("%s = %v, %v, but should fail", told, f, ok)
		}
		return
	}
	if !ok || f != plainFraction(want) {
		t.Errorf("%s = %v, %v, not %v", told, f, ok, want)
	}
}

func checkNextChance(t *testing.T, a impl.Board, direction int, b impl.Board, want *big.Rat) {
	t.Helper()
	f, ok := impl.ChanceOfNext(a, direction, b)
	checkFraction(t, fmt.Sprint("ChanceOfNext ", a, direction, b), f, ok, want)
}

func checkOverChance(t *testing.T, b impl.Board, direction int, want *big.Rat) {
	t.Helper()
	f, ok := impl.ChanceOver(b, direction)
	checkFraction(t, fmt.Sprint("ChanceOver ", b, direction), f, ok, want)
}

func checkRoom(t *testing.T, b impl.Board, direction int, want *big.Rat) {
	t.Helper()
	f, ok := impl.MeanRoom(b, direction)
	checkFraction(t, fmt.Sprint("MeanRoom ", b, direction), f, ok, want)
}

func checkBestRoom(t *testing.T, b impl.Board, best int, want *big.Rat) {
	t.Helper()
	direction, f, ok := impl.BestRoom(b)
	checkFraction(t, fmt.Sprint("BestRoom ", b), f, ok, want)
	if direction != best {
		t.Errorf("BestRoom(%v) is to %d, not %d", b, direction, best)
	}
}

func checkMeanSum(t *testing.T, b impl.Board, n int, want *big.Rat) {
	t.Helper()
	f, ok := impl.MeanSum(b, n)
	checkFraction(t, fmt.Sprint("MeanSum ", b, n), f, ok, want)
}

func checkKeep(t *testing.T, b impl.Board, n int, want *big.Rat) {
	t.Helper()
	f, ok := impl.KeepChance(b, n)
	checkFraction(t, fmt.Sprint("KeepChance ", b, n), f, ok, want)
}

func checkMeanScore(t *testing.T, b impl.Board, n int, want *big.Rat) {
	t.Helper()
	f, ok := impl.MeanScore(b, n)
	checkFraction(t, fmt.Sprint("MeanScore ", b, n), f, ok, want)
}

func checkWell(t *testing.T, b impl.Board, n int, want int, fine bool) {
	t.Helper()
	if first, ok := impl.FirstWell(b, n); ok != fine || first != want {
		t.Errorf("FirstWell(%v, %d) = %d, %v, not %d, %v", b, n, first, ok, want, fine)
	}
}

func checkTileChance(t *testing.T, b impl.Board, direction int, cell [2]int, tile int, want *big.Rat) {
	t.Helper()
	f, ok := impl.ChanceOfTile(b, direction, cell, tile)
	checkFraction(t, fmt.Sprint("ChanceOfTile ", b, direction, cell, tile), f, ok, want)
}

func checkMergeChance(t *testing.T, b impl.Board, direction int, want *big.Rat) {
	t.Helper()
	f, ok := impl.MergeChance(b, direction)
	checkFraction(t, fmt.Sprint("MergeChance ", b, direction), f, ok, want)
}

// checkNoMove checks that all functions of a slide fail.
func checkNoMove(t *testing.T, b impl.Board, direction int) {
	t.Helper()
	checkNextChance(t, b, direction, boardOf("a..."), noFraction())
	checkNextChance(t, b, direction, b, noFraction())
	checkOverChance(t, b, direction, noFraction())
	checkRoom(t, b, direction, noFraction())
	checkMergeChance(t, b, direction, noFraction())
	for number := range 32 {
		checkTileChance(t, b, direction, [2]int{number / 8, number / 2 % 4}, number%2, noFraction())
	}
}

// openBoards returns Boards with many empty cells.
func openBoards() []impl.Board {
	boards := []impl.Board{}
	source := rand.New(rand.NewSource(91))
	for _, kind := range [][4]int{{2, 1, 3, 20}, {3, 1, 2, 20}, {4, 1, 3, 20}, {3, 1, 17, 20}, {4, 16, 17, 20}} {
		for range kind[3] {
			boards = append(boards, randomBoard(source, kind[0], kind[1], kind[2]))
		}
	}
	return append(boards, boardOf("a..."), boardOf("q..q"), boardOf("aabb"), boardOf(".b.."))
}

// nearlyFull returns Boards with few empty cells, each with one, two or three equal tiles and
// many other ones, some of them new ones.
func nearlyFull() []impl.Board {
	boards := []impl.Board{}
	source := rand.New(rand.NewSource(92))
	for i := range 300 {
		b := impl.Board{}
		for cell, tile := range source.Perm(16) {
			b.Rows[cell/4][cell%4] = tile + 2
		}
		for range 1 + i%3 {
			b.Rows[source.Intn(4)][source.Intn(4)] = 0
		}
		for range i % 5 {
			b.Rows[source.Intn(4)][source.Intn(4)] = 1 + source.Intn(2)
		}
		boards = append(boards, b)
	}
	return boards
}

// meanSamples holds Boards that are over, tight and cramped ones, nearly full and open ones.
var meanSamples = sync.OnceValue(func() []impl.Board {
	boards := slices.Concat(overBoards(), nearlyFull(), openBoards())
	for i, b := range tightBoards() {
		if i%3 == 0 {
			boards = append(boards, b)
		}
	}
	for i, b := range crampedBoards() {
		if i%8 < 2 {
			boards = append(boards, b)
		}
	}
	return boards
})

func fractionText(f [2]int, ok bool) string {
	if !ok {
		return fmt.Sprint("no", f)
	}
	return fmt.Sprint(f[0], "/", f[1])
}

// movesTold tells of each move the chance to be over, the mean room and the chance to merge, and
// then the best room.
func movesTold(b impl.Board) string {
	told := ""
	for direction := range 4 {
		if over, ok := impl.ChanceOver(b, direction); ok {
			room, isMove := impl.MeanRoom(b, direction)
			merge, too := impl.MergeChance(b, direction)
			told += fmt.Sprintf("%c: %s %s %s, ", "lurd"[direction], fractionText(over, ok), fractionText(room, isMove), fractionText(merge, too))
		}
	}
	best, room, ok := impl.BestRoom(b)
	return told + fmt.Sprint(best, " ", fractionText(room, ok))
}

func TestMovesOfKnownBoards(t *testing.T) {
	checkTold(t, movesTold, "0 no[0 0]", map[string]string{
		// A new tile beside the only one meets it in two of the 15 cells, and in six of them a
		// slide brings both together.
		"a...": "r: 0/1 353/25 9/25, d: 0/1 353/25 9/25, 2 353/25",
		"b...": "r: 0/1 1051/75 1/25, d: 0/1 1051/75 1/25, 2 1051/75",
		"c...": "r: 0/1 14/1 0/1, d: 0/1 14/1 0/1, 2 14/1",
		"q...": "r: 0/1 14/1 0/1, d: 0/1 14/1 0/1, 2 14/1",
		// The slide to the left is no move, and the first one of the others is the best.
		"..../cd../..../....": "u: 0/1 13/1 0/1, r: 0/1 13/1 0/1, d: 0/1 13/1 0/1, 1 13/1",
		// A single empty cell: a new tile 1 meets another one, or does not.
		"cdef/ghij/almn/opq.": "r: 1/10 9/10 9/10, d: 1/1 0/1 0/1, 2 9/10",
		"cgao/dhlp/eimq/fjn.": "r: 1/1 0/1 0/1, d: 1/10 9/10 9/10, 3 9/10",
		"cdef/ghij/blmn/opq.": "r: 9/10 1/10 1/10, d: 1/1 0/1 0/1, 2 1/10",
		"cdef/ghij/almn/bop.": "r: 0/1 1/1 1/1, d: 1/1 0/1 0/1, 2 1/1",
		// Behind the slide to the right, both neighbors of a new tile 1 are equal to it; a merger
		// leaves two empty cells, of which the new tile fills one.
		"cdef/ghij/almn/aop.": "u: 0/1 21/20 1/20, r: 1/10 9/5 9/10, d: 0/1 1/1 0/1, 2 9/5",
		"acac/caca/acac/cac.": "r: 0/1 39/10 1/1, d: 0/1 39/10 1/1, 2 39/10",
		"qqqq/qqqq/qqqq/qqq.": "r: 1/1 0/1 0/1, d: 1/1 0/1 0/1, 2 0/1",
		// Full Boards.
		"cdef/ghij/klmn/opee": "l: 1/1 0/1 0/1, r: 1/1 0/1 0/1, 0 0/1",
		"qqqq/qqqq/qqqq/qqpp": "l: 1/1 0/1 0/1, r: 1/1 0/1 0/1, 0 0/1",
		"cdef/ghij/klma/opee": "l: 1/10 9/10 9/10, r: 1/1 0/1 0/1, 0 9/10",
		// Two empty cells, side by side, and a new tile leaves one of them.
		"cdef/ghij/klmn/op..": "r: 0/1 1/1 0/1, d: 0/1 1/1 0/1, 2 1/1",
	})
}

// longTold tells the chances to keep moves for 0, 1, 2 and 3, the first move for 1, 2 and 3, and
// the mean scores for 0, 1 and 2 moves.
func longTold(b impl.Board) string {
	told := []string{}
	for n := range 4 {
		told = append(told, fractionText(impl.KeepChance(b, n)))
	}
	for n := 1; n <= 3; n++ {
		first, ok := impl.FirstWell(b, n)
		told = append(told, fmt.Sprint(first, ok))
	}
	for n := range 3 {
		told = append(told, fractionText(impl.MeanScore(b, n)))
	}
	return strings.Join(told, " ")
}

func TestChancesAndScoresOfKnownBoards(t *testing.T) {
	checkTold(t, longTold, "1/1 0/1 0/1 0/1 0 false 0 false 0 false 0/1 0/1 0/1", map[string]string{
		"q...": "1/1 1/1 1/1 1/1 2 true 2 true 2 true 0/1 0/1 0/1",
		"b...": "1/1 1/1 1/1 1/1 2 true 2 true 2 true 0/1 0/1 8/25",
		// A new tile 2 in six of 15 cells meets the one that has come out of the merger.
		"aa..": "1/1 1/1 1/1 1/1 0 true 0 true 0 true 0/1 4/1 108/25",
		// To the right, a new tile 2 can meet the other one from two sides.
		"aabb": "1/1 1/1 1/1 1/1 0 true 0 true 0 true 0/1 12/1 86/7",
		// To the right, a new tile 1 meets the other one. When they have merged, by the slide up,
		// a new tile 2 meets what has come out.
		"cdef/ghij/almn/opq.": "1/1 1/1 9/10 9/100 2 true 2 true 2 true 0/1 0/1 18/5",
		// The same with rows for columns: the move for 2 moves is not the first one.
		"cgao/dhlp/eimq/fjn.": "1/1 1/1 9/10 9/100 2 true 3 true 3 true 0/1 0/1 18/5",
		// Each new tile meets one there: behind 1, the slide down brings two tiles 2 together, and
		// behind 2 the one to the right goes on with 9/10.
		"cdef/ghij/almn/bop.": "1/1 1/1 1/1 99/100 2 true 2 true 2 true 0/1 0/1 22/5",
		"acac/caca/acac/cac.": "1/1 1/1 1/1 1/1 2 true 2 true 2 true 0/1 0/1 198/5",
		"qqqq/qqqq/qqqq/qqq.": "1/1 1/1 0/1 0/1 2 true 2 true 2 true 0/1 0/1 0/1",
		// Full Boards that are over behind one move.
		"cdef/ghij/klmn/opee": "1/1 1/1 0/1 0/1 0 true 0 true 0 true 0/1 64/1 64/1",
		"qqqq/qqqq/qqqq/qqpp": "1/1 1/1 0/1 0/1 0 true 0 true 0 true 0/1 131072/1 131072/1",
		// The new tile 1 below another one merges, and then a new tile 2 on the same place.
		"cdef/ghij/klma/opee": "1/1 1/1 9/10 9/100 0 true 0 true 0 true 0/1 64/1 338/5",
		// The slide to the left leaves a mean of just 1 for the next move, which is no chance, and
		// the slide up brings more.
		"cdb./.eaf/...f/h...": "1/1 1/1 1/1 1/1 0 true 0 true 0 true 0/1 128/1 646/5",
	})
}

func TestChanceOfNextOfKnownBoards(t *testing.T) {
	for _, c := range []struct {
		a         string
		direction int
		b         string
		want      [2]int64
	}{
		{"a...", right, "a..a", [2]int64{3, 50}},
		{"a...", right, "b..a", [2]int64{1, 150}},
		{"a...", right, "...a/..../..../b...", [2]int64{1, 150}},
		{"a...", down, "..../..../..../a..a", [2]int64{3, 50}},
		// Boards that are not behind the slide, or have no new tile, two of them, or another one.
		{"a...", down, "a..a", [2]int64{0, 1}},
		{"a...", right, "...a", [2]int64{0, 1}},
		{"a...", right, "a...", [2]int64{0, 1}},
		{"a...", right, "aa.a", [2]int64{0, 1}},
		{"a...", right, "c..a", [2]int64{0, 1}},
		{"a...", right, "...b", [2]int64{0, 1}},
		{"a...", right, emptyText, [2]int64{0, 1}},
		{"aa..", left, "ba..", [2]int64{3, 50}},
		{"aa..", left, "aaa.", [2]int64{0, 1}},
		// A single empty cell, Boards that are over, and full ones.
		{"acac/caca/acac/cac.", right, "acac/caca/acac/acac", [2]int64{9, 10}},
		{"acac/caca/acac/cac.", right, "acac/caca/acac/bcac", [2]int64{1, 10}},
		{"acac/caca/acac/cac.", right, "acac/caca/acac/caca", [2]int64{0, 1}},
		{"qqqq/qqqq/qqqq/qqq.", down, "qqqa/qqqq/qqqq/qqqq", [2]int64{9, 10}},
		{"cdef/ghij/klmn/opee", left, "cdef/ghij/klmn/opfb", [2]int64{1, 10}},
		{"cdef/ghij/klmn/opee", right, "cdef/ghij/klmn/aopf", [2]int64{9, 10}},
		{"cdef/ghij/klmn/opee", right, "cdef/ghij/klmn/opfa", [2]int64{0, 1}},
		// Two empty cells.
		{"cdef/ghij/klmn/op..", right, "cdef/ghij/klmn/a.op", [2]int64{9, 20}},
		{"cdef/ghij/klmn/op..", right, "cdef/ghij/klmn/.bop", [2]int64{1, 20}},
	} {
		checkNextChance(t, boardOf(c.a), c.direction, boardOf(c.b), big.NewRat(c.want[0], c.want[1]))
	}
}

// nearBoards returns the Boards behind all steps of a Board, the Board itself, and those behind
// its slides.
func nearBoards(b impl.Board) []impl.Board {
	boards := []impl.Board{b, {}, fullOf(1)}
	for direction := range 4 {
		slid, _, _ := plainSlide(b, direction)
		boards = append(boards, slid)
		for _, p := range plainPlacements(slid) {
			boards = append(boards, plainPlaced(slid, p))
		}
	}
	return boards
}

func TestChanceOfNext(t *testing.T) {
	for i, b := range meanSamples() {
		direction := i % 4
		slid, _, _ := plainSlide(b, direction)
		if slid == b {
			checkNoMove(t, b, direction)
			continue
		}
		wanted := map[impl.Board]*big.Rat{}
		for _, p := range plainPlacements(slid) {
			wanted[plainPlaced(slid, p)] = plainChance(p, 16-len(tilesOf(slid)))
		}
		for _, next := range nearBoards(b) {
			want := wanted[next]
			if want == nil {
				want = new(big.Rat)
			}
			checkNextChance(t, b, direction, next, want)
		}
	}
}

// Promise 9, its first part.
func TestChancesOfAllBoardsBehindAMoveAre1Together(t *testing.T) {
	for i, b := range meanSamples() {
		direction := i / 2 % 4
		steps, _ := impl.StepsOf(b, direction)
		different := map[impl.Board]bool{}
		for _, s := range steps {
			next, _, _ := impl.DoStep(b, s)
			different[next] = true
		}
		together := new(big.Rat)
		for next := range different {
			chance, ok := impl.ChanceOfNext(b, direction, next)
			if !ok || chance[0] < 1 || chance[0] > chance[1] {
				t.Fatalf("ChanceOfNext(%v, %d, %v) = %v, %v", b, direction, next, chance, ok)
			}
			together.Add(together, ratOf(chance))
		}
		if together.Cmp(ratIf(len(steps) > 0)) != 0 {
			t.Errorf("the chances of %v to %d are %v together", b, direction, together)
		}
	}
}

// Promise 9, its second part.
func TestTheChanceToHaveMovesGetsNoGreaterWithMoreOfThem(t *testing.T) {
	less := [4]int{}
	for _, b := range meanSamples() {
		before := big.NewRat(1, 1)
		for n := range 4 {
			chance, ok := impl.KeepChance(b, n)
			if !ok || chance[1] < 1 {
				t.Fatalf("KeepChance(%v, %d) = %v, %v", b, n, chance, ok)
			}
			if order := ratOf(chance).Cmp(before); order > 0 {
				t.Errorf("KeepChance(%v, %d) = %v, and for one move less %v", b, n, chance, before)
			} else if order < 0 {
				less[n]++
			}
			before = ratOf(chance)
		}
	}
	if less[0] > 0 || less[1] < 5 || less[2] < 50 || less[3] < 50 {
		t.Error("the chance is less than for one move less for", less)
	}
}

func TestChanceOverMeanRoomAndMergeChance(t *testing.T) {
	overs, rooms, merges := map[[2]int]int{}, map[[2]int]int{}, map[[2]int]int{}
	for _, b := range append(meanSamples(), reachSamples()...) {
		for direction := range 4 {
			slid, _, _ := plainSlide(b, direction)
			if slid == b {
				checkNoMove(t, b, direction)
				continue
			}
			over, room := plainOver(slid), plainRoom(slid)
			merge := plainMean(slid, func(next impl.Board) *big.Rat { return ratIf(plainMerges(next)) })
			checkOverChance(t, b, direction, over)
			checkRoom(t, b, direction, room)
			checkMergeChance(t, b, direction, merge)
			overs[plainFraction(over)]++
			rooms[plainFraction(room)]++
			merges[plainFraction(merge)]++
		}
	}
	for _, f := range [][2]int{{0, 1}, {1, 1}, {1, 10}, {9, 10}} {
		if overs[f] < 10 || merges[f] < 10 {
			t.Error("the chance", f, "is rare:", overs[f], merges[f])
		}
	}
	if len(overs) != 4 || len(rooms) < 100 || len(merges) < 50 {
		t.Error("the fractions are alike:", len(overs), len(rooms), len(merges))
	}
}

// Pairs of tiles MaxTile make no room, and no move that scores.
func TestTheHighestTilesMakeNoRoom(t *testing.T) {
	checkRoom(t, boardOf("qqqq/qq../..../...."), right, big.NewRat(9, 1))
	checkMergeChance(t, boardOf("qqqq/qq../..../...."), right, new(big.Rat))
	checkRoom(t, boardOf("pp../qq../..../...."), down, big.NewRat(12, 1))
	checkMergeChance(t, boardOf("pp../qq../..../...."), down, big.NewRat(1, 1))
	checkRoom(t, boardOf("pp../qq../..../...."), right, big.NewRat(12, 1))
	checkMergeChance(t, boardOf("pp../qq../..../...."), right, new(big.Rat))
}

func TestBestRoom(t *testing.T) {
	bests, several := [4]int{}, 0
	for _, b := range append(meanSamples(), reachSamples()...) {
		moves := plainMoves(b)
		if len(moves) == 0 {
			checkBestRoom(t, b, 0, noFraction())
			continue
		}
		means := []*big.Rat{}
		for _, direction := range moves {
			slid, _, _ := plainSlide(b, direction)
			means = append(means, plainRoom(slid))
		}
		most := ratMax(means)
		isMost := func(mean *big.Rat) bool { return mean.Cmp(most) == 0 }
		first := slices.IndexFunc(means, isMost)
		checkBestRoom(t, b, moves[first], most)
		if first < len(means)-1 && slices.ContainsFunc(means[first+1:], isMost) {
			several++
		}
		bests[moves[first]]++
	}
	if slices.Min(bests[:]) < 20 || several < 50 {
		t.Error("the best moves are", bests, "and several are for", several)
	}
}

func TestMeanSum(t *testing.T) {
	for _, c := range []struct {
		text string
		n    int
		want [2]int64
	}{
		{emptyText, 0, [2]int64{0, 1}},
		{emptyText, 1, [2]int64{11, 5}},
		{emptyText, 1000, [2]int64{2200, 1}},
		{"a...", 0, [2]int64{2, 1}},
		{"a...", 1, [2]int64{21, 5}},
		{"a...", 3, [2]int64{43, 5}},
		{"a...", 4, [2]int64{54, 5}},
		{"a...", 5, [2]int64{13, 1}},
		{"a...", 999, [2]int64{10999, 5}},
		{"a...", 1000, [2]int64{2202, 1}},
		// Boards that are over are told of alike.
		{"abab/baba/abab/baba", 0, [2]int64{48, 1}},
		{"abab/baba/abab/baba", 2, [2]int64{262, 5}},
		{"qqqq/qqqq/qqqq/qqqq", 1000, [2]int64{2099352, 1}},
		{"aaaa/aaaa/aaaa/aaaa", 10, [2]int64{54, 1}},
	} {
		checkMeanSum(t, boardOf(c.text), c.n, big.NewRat(c.want[0], c.want[1]))
	}
	for _, b := range meanSamples() {
		for n := range 12 {
			for _, steps := range []int{n, 97*n - n/11*67} {
				want := big.NewRat(11*int64(steps), 5)
				checkMeanSum(t, b, steps, want.Add(want, big.NewRat(int64(plainSum(b)), 1)))
			}
		}
	}
}

// One step makes the sum greater by 11/5 in the mean, whatever the move is.
func TestMeanSumBehindOneStep(t *testing.T) {
	for i, b := range meanSamples() {
		slid, _, _ := plainSlide(b, i%4)
		if slid == b {
			continue
		}
		mean := plainMean(slid, func(next impl.Board) *big.Rat { return big.NewRat(int64(plainSum(next)), 1) })
		checkMeanSum(t, b, 1, mean)
	}
}

func TestKeepChanceAndFirstWell(t *testing.T) {
	parts, others := [4]int{}, [4]int{}
	for _, b := range meanSamples() {
		checkKeep(t, b, 0, big.NewRat(1, 1))
		moves := plainMoves(b)
		for n := 1; n <= 3; n++ {
			if len(moves) == 0 {
				checkKeep(t, b, n, new(big.Rat))
				checkWell(t, b, n, 0, false)
				continue
			}
			chances := plainKeeps(b, n)
			most := ratMax(chances)
			first := slices.IndexFunc(chances, func(chance *big.Rat) bool { return chance.Cmp(most) == 0 })
			checkKeep(t, b, n, most)
			checkWell(t, b, n, moves[first], true)
			if most.Sign() > 0 && !most.IsInt() {
				parts[n]++
			}
			if first > 0 {
				others[n]++
			}
		}
	}
	if parts[1] > 0 || others[1] > 0 || parts[2] < 50 || parts[3] < 100 || others[2] < 50 || others[3] < 50 {
		t.Error("the chance is neither 0 nor 1 for", parts, "and another than the first move is well for", others)
	}
}

func TestMeanScore(t *testing.T) {
	parts := 0
	for _, b := range append(meanSamples(), reachSamples()...) {
		for n := range 3 {
			want := plainScore(b, n)
			checkMeanScore(t, b, n, want)
			if !want.IsInt() {
				parts++
			}
		}
	}
	if parts < 300 {
		t.Error("only some means are no whole numbers:", parts)
	}
}

// What chance brings is no worse than what an opponent chooses (chapter 8), and sure only if he
// cannot hinder it.
func TestChancesAreNoWorseThanTheWorst(t *testing.T) {
	for _, b := range meanSamples() {
		for n := range 4 {
			chance, _ := impl.KeepChance(b, n)
			if lasts, ok := impl.Lasts(b, n); !ok || lasts != (chance == [2]int{1, 1}) {
				t.Errorf("KeepChance(%v, %d) = %v, and it lasts: %v, %v", b, n, chance, lasts, ok)
			}
		}
		for n := 1; n <= 3; n++ {
			if safe, _ := impl.SafeMoves(b, n); len(safe) > 0 {
				checkWell(t, b, n, safe[0], true)
			}
		}
		for n := range 3 {
			sure, _ := impl.SureScore(b, n)
			if mean, ok := impl.MeanScore(b, n); !ok || mean[0] < sure*mean[1] {
				t.Errorf("MeanScore(%v, %d) = %v, %v, and sure is %d", b, n, mean, ok, sure)
			}
		}
	}
}

func TestChanceOfTile(t *testing.T) {
	for i, b := range meanSamples() {
		direction := i / 3 % 4
		slid, _, _ := plainSlide(b, direction)
		if slid == b {
			checkNoMove(t, b, direction)
			continue
		}
		for number := range 16 {
			cell := [2]int{number / 4, number % 4}
			together := new(big.Rat)
			for tile := 0; tile <= impl.MaxTile; tile++ {
				checkTileChance(t, b, direction, cell, tile, plainTile(slid, cell, tile))
				chance, _ := impl.ChanceOfTile(b, direction, cell, tile)
				together.Add(together, ratOf(chance))
			}
			if together.Cmp(big.NewRat(1, 1)) != 0 {
				t.Errorf("the chances of all numbers in %v of %v to %d are %v together", cell, b, direction, together)
			}
		}
	}
}

func TestChanceOfTileOfKnownBoards(t *testing.T) {
	for _, c := range []struct {
		text      string
		direction int
		cell      [2]int
		tile      int
		want      [2]int64
	}{
		{"a...", right, [2]int{3, 3}, 0, [2]int64{14, 15}},
		{"a...", right, [2]int{3, 3}, 1, [2]int64{3, 50}},
		{"a...", right, [2]int{3, 3}, 2, [2]int64{1, 150}},
		{"a...", right, [2]int{3, 3}, 3, [2]int64{0, 1}},
		// The cell has the tile that has slid to it; where that was can be a new one.
		{"a...", right, [2]int{0, 3}, 1, [2]int64{1, 1}},
		{"a...", right, [2]int{0, 3}, 0, [2]int64{0, 1}},
		{"a...", right, [2]int{0, 3}, 2, [2]int64{0, 1}},
		{"a...", right, [2]int{0, 0}, 1, [2]int64{3, 50}},
		{"pp..", left, [2]int{0, 0}, impl.MaxTile, [2]int64{1, 1}},
		{"pp..", left, [2]int{0, 1}, impl.MaxTile, [2]int64{0, 1}},
		// A single empty cell.
		{"acac/caca/acac/cac.", right, [2]int{3, 0}, 0, [2]int64{0, 1}},
		{"acac/caca/acac/cac.", right, [2]int{3, 0}, 1, [2]int64{9, 10}},
		{"acac/caca/acac/cac.", right, [2]int{3, 0}, 2, [2]int64{1, 10}},
		{"acac/caca/acac/cac.", right, [2]int{3, 3}, 3, [2]int64{1, 1}},
		{"cdef/ghij/klmn/opee", left, [2]int{3, 3}, 2, [2]int64{1, 10}},
		{"cdef/ghij/klmn/op..", right, [2]int{3, 1}, 0, [2]int64{1, 2}},
		{"cdef/ghij/klmn/op..", right, [2]int{3, 1}, 1, [2]int64{9, 20}},
	} {
		checkTileChance(t, boardOf(c.text), c.direction, c.cell, c.tile, big.NewRat(c.want[0], c.want[1]))
	}
}

// The guarantee of the chapter, as far as the tests of promise 9 do not have it.
func TestChancesKeepTheGuarantee(t *testing.T) {
	for _, b := range append(meanSamples(), reachSamples()...) {
		over, _ := impl.IsOver(b)
		checkKeep(t, b, 1, ratIf(!over))
		best, most, found := impl.BestRoom(b)
		if found == over {
			t.Errorf("BestRoom(%v) = %d, %v, %v", b, best, most, found)
		}
		for direction := range 4 {
			mean, ok := impl.MeanRoom(b, direction)
			if !ok {
				continue
			}
			order := ratOf(mean).Cmp(ratOf(most))
			if order > 0 || direction == best && order != 0 || direction < best && order == 0 {
				t.Errorf("BestRoom(%v) = %d, %v, and to %d it is %v", b, best, most, direction, mean)
			}
			checkChances(t, b, direction)
		}
	}
}

// checkChances checks that the chances of a move are at most 1.
func checkChances(t *testing.T, b impl.Board, direction int) {
	t.Helper()
	over, one := impl.ChanceOver(b, direction)
	merge, two := impl.MergeChance(b, direction)
	tile, three := impl.ChanceOfTile(b, direction, [2]int{1, 2}, 1)
	for _, chance := range [][2]int{over, merge, tile} {
		if !one || !two || !three || chance[0] < 0 || chance[1] < 1 || chance[0] > chance[1] {
			t.Errorf("the chances of %v to %d are %v, %v, %v", b, direction, over, merge, tile)
		}
	}
}

// A form of a Board has the same chances for the forms of its moves.
func TestFormsHaveTheSameChances(t *testing.T) {
	for i, b := range meanSamples() {
		k := 1 + i%7
		form, _ := impl.FormBoard(b, k)
		for n := range 4 {
			chance, ok := impl.KeepChance(b, n)
			if other, too := impl.KeepChance(form, n); !ok || !too || other != chance {
				t.Errorf("KeepChance of %v and %v for %d: %v, %v", b, form, n, chance, other)
			}
		}
		mean, _ := impl.MeanScore(b, 2)
		checkMeanScore(t, form, 2, ratOf(mean))
		for direction := range 4 {
			side, _ := impl.FormSide(k, direction)
			over, ok := impl.ChanceOver(b, direction)
			if !ok {
				checkNoMove(t, form, side)
				continue
			}
			room, _ := impl.MeanRoom(b, direction)
			merge, _ := impl.MergeChance(b, direction)
			checkOverChance(t, form, side, ratOf(over))
			checkRoom(t, form, side, ratOf(room))
			checkMergeChance(t, form, side, ratOf(merge))
		}
	}
}

// meanBoards are good ones, some of them with a single empty cell, full, or over.
func meanBoards() []impl.Board {
	return slices.Concat(goodBoards(), overBoards(), []impl.Board{boardOf("acac/caca/acac/cac."), boardOf("cdef/ghij/klmn/opee")})
}

func TestWrongNumbersOfWellPlayedMovesAreRefused(t *testing.T) {
	for _, b := range meanBoards() {
		for _, n := range wrongLastings() {
			checkKeep(t, b, n, noFraction())
			checkMeanScore(t, b, n, noFraction())
			checkWell(t, b, n, 0, false)
		}
		// Good ones for another function.
		checkMeanScore(t, b, 3, noFraction())
		checkWell(t, b, 0, 0, false)
	}
}

func TestWrongNumbersOfMeanStepsAreRefused(t *testing.T) {
	for _, b := range meanBoards() {
		for _, n := range []int{-1, 1001, 1002, -2, -1000, 10000, 1 << 32, 1<<32 + 1, math.MaxInt, math.MaxInt / 11, math.MinInt, math.MinInt + 1} {
			checkMeanSum(t, b, n, noFraction())
		}
	}
}

func TestWrongDirectionsHaveNoChances(t *testing.T) {
	for _, b := range meanBoards() {
		for _, direction := range wrongDirections() {
			checkNoMove(t, b, direction)
		}
	}
}

func TestWrongCellsAndTilesHaveNoChances(t *testing.T) {
	for _, b := range meanBoards() {
		for direction := range 4 {
			for _, cell := range wrongCells() {
				for tile := 0; tile <= impl.MaxTile; tile++ {
					checkTileChance(t, b, direction, cell, tile, noFraction())
				}
			}
			for _, tile := range wrongNumbers() {
				for cell := range 16 {
					checkTileChance(t, b, direction, [2]int{cell / 4, cell % 4}, tile, noFraction())
				}
			}
		}
	}
}

func TestWrongBoardsHaveNoChances(t *testing.T) {
	for _, b := range wrongBoards() {
		for direction := range 4 {
			checkNoMove(t, b, direction)
			checkNextChance(t, boardOf("aabc/d.../e.../f..."), direction, b, noFraction())
			checkNextChance(t, impl.Board{}, direction, b, noFraction())
		}
		checkBestRoom(t, b, 0, noFraction())
		for n := range 4 {
			checkMeanSum(t, b, n, noFraction())
			checkKeep(t, b, n, noFraction())
			checkMeanScore(t, b, n, noFraction())
			checkWell(t, b, n, 0, false)
		}
	}
}

// meanResults tells what the functions of one Board return.
func meanResults(b impl.Board, n int) string {
	told := movesTold(b) + longTold(b)
	next, one := impl.ChanceOfNext(b, n, boardOf("a..a"))
	sum, two := impl.MeanSum(b, n)
	tile, three := impl.ChanceOfTile(b, n, [2]int{n, 3}, n)
	return told + fmt.Sprint(next, one, sum, two, tile, three)
}

// Promise 13.
func TestChancesAreTheSameForTheSame(t *testing.T) {
	for i, b := range append(meanSamples(), wrongBoards()...) {
		kept := b
		first := meanResults(b, i%4)
		if again := meanResults(b, i%4); again != first || b != kept {
			t.Errorf("%v: %s, then %s", b, first, again)
		}
	}
}
