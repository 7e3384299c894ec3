package tests

import (
	"fmt"
	"math"
	"math/rand"
	"slices"
	"sync"
	"testing"

	"loop.example/g01194/impl"
)

// placement reads a placement from the row, the column and the letter of the tile.
func placement(text string) [3]int {
	return [3]int{int(text[0] - '0'), int(text[1] - '0'), int(text[2]-'a') + 1}
}

func placementText(p [3]int) string { return fmt.Sprintf("%d%d%c", p[0], p[1], 'a'+p[2]-1) }

func placementsOf(texts ...string) [][3]int {
	all := [][3]int{}
	for _, text := range texts {
		all = append(all, placement(text))
	}
	return all
}

// plainPlacements looks at all that placements can be, in order.
func plainPlacements(b impl.Board) [][3]int {
	all := [][3]int{}
	for number := range 32 {
		p := [3]int{number / 8, number / 2 % 4, number%2 + 1}
		if b.Rows[p[0]][p[1]] == 0 {
			all = append(all, p)
		}
	}
	return all
}

func plainPlaced(b impl.Board, p [3]int) impl.Board {
	b.Rows[p[0]][p[1]] = p[2]
	return b
}

// plainDead looks for equal neighbors where there is no empty cell any more.
func plainDead(b impl.Board) [][3]int {
	dead := [][3]int{}
	for _, p := range plainPlacements(b) {
		if len(tilesOf(b)) == 15 && plainPairs(plainPlaced(b, p)) == 0 {
			dead = append(dead, p)
		}
	}
	return dead
}

// plainWorst returns the first placement after which there are as few moves as can be, and how
// many there are; none for a full Board.
func plainWorst(b impl.Board) ([3]int, int) {
	for few := range 5 {
		for _, p := range plainPlacements(b) {
			if len(plainMoves(plainPlaced(b, p))) == few {
				return p, few
			}
		}
	}
	return [3]int{}, 0
}

// plainRefute returns the first placement on a Board after which it does not last n moves, and
// whether there is one.
func plainRefute(b impl.Board, n int) ([3]int, bool) {
	for _, p := range plainPlacements(b) {
		if !plainLasts(plainPlaced(b, p), n) {
			return p, true
		}
	}
	return [3]int{}, false
}

func isPlainSafe(b impl.Board, direction int, n int) bool {
	slid, _, _ := plainSlide(b, direction)
	_, refuted := plainRefute(slid, n-1)
	return slid != b && !refuted
}

func plainLasts(b impl.Board, n int) bool {
	return n == 0 || isPlainSafe(b, left, n) || isPlainSafe(b, up, n) || isPlainSafe(b, right, n) || isPlainSafe(b, down, n)
}

func plainSafe(b impl.Board, n int) []int {
	safe := []int{}
	for direction := range 4 {
		if isPlainSafe(b, direction, n) {
			safe = append(safe, direction)
		}
	}
	return safe
}

// plainReply returns the first placement after which the sure score in n moves is the least, and
// this score.
func plainReply(b impl.Board, n int) ([3]int, int) {
	scores := []int{}
	for _, p := range plainPlacements(b) {
		scores = append(scores, plainSure(plainPlaced(b, p), n))
	}
	least := slices.Min(scores)
	return plainPlacements(b)[slices.Index(scores, least)], least
}

// plainSures returns for each move the sum of its score and the least sure score behind it.
func plainSures(b impl.Board, n int) []int {
	sures := []int{}
	for _, direction := range plainMoves(b) {
		slid, score, _ := plainSlide(b, direction)
		_, least := plainReply(slid, n-1)
		sures = append(sures, score+least)
	}
	return sures
}

func plainSure(b impl.Board, n int) int {
	if n == 0 || len(plainMoves(b)) == 0 {
		return 0
	}
	return slices.Max(plainSures(b, n))
}

// overTexts are of Boards without moves.
func overTexts() []string {
	return []string{emptyText, "abab/baba/abab/baba", "acac/caca/acac/caca", "qqqq/qqqq/qqqq/qqqq", "abcd/efgh/ijkl/mnop", "cdef/ghij/klmn/opqq", "qqqq/abab/qqqq/baba"}
}

// overBoards returns the Boards of overTexts.
func overBoards() []impl.Board {
	boards := []impl.Board{}
	for _, text := range overTexts() {
		boards = append(boards, boardOf(text))
	}
	return boards
}

// tightBoards returns Boards that are full, or nearly so, with many different tiles or with few.
func tightBoards() []impl.Board {
	boards := []impl.Board{}
	source := rand.New(rand.NewSource(81))
	for _, kind := range [][4]int{{100, 1, 17, 300}, {20, 1, 17, 200}, {12, 1, 12, 100}, {30, 1, 6, 100}, {12, 14, 17, 60}, {40, 1, 3, 60}} {
		for range kind[3] {
			boards = append(boards, randomBoard(source, kind[0], kind[1], kind[2]))
		}
	}
	return boards
}

// worstSamples holds Boards that are over, tight and cramped ones, and some of sampleBoards.
var worstSamples = sync.OnceValue(func() []impl.Board {
	boards := append(overBoards(), tightBoards()...)
	for i, b := range crampedBoards() {
		if i%8 < 2 {
			boards = append(boards, b)
		}
	}
	for i, b := range sampleBoards() {
		if i%9 == 0 {
			boards = append(boards, b)
		}
	}
	return boards
})

func wrongLastings() []int {
	return []int{-1, 4, 5, -2, -3, 256, 257, 1 << 32, 1<<32 + 1, 1<<32 + 3, math.MaxInt, math.MinInt, math.MinInt + 1}
}

func checkPlacements(t *testing.T, b impl.Board, want [][3]int) {
	t.Helper()
	if all, ok := impl.PlacementsOf(b); !ok || !slices.Equal(all, want) {
		t.Errorf("PlacementsOf(%v) = %v, %v, not %v", b, all, ok, want)
	}
}

func TestPlacementsOf(t *testing.T) {
	for _, text := range overTexts()[1:] {
		checkPlacements(t, boardOf(text), [][3]int{})
	}
	checkPlacements(t, fullOf(1), [][3]int{})
	checkPlacements(t, boardOf("acac/caca/acac/cac."), placementsOf("33a", "33b"))
	checkPlacements(t, boardOf(".cac/caca/acac/caca"), placementsOf("00a", "00b"))
	checkPlacements(t, boardOf("ac.c/caca/.cac/caca"), placementsOf("02a", "02b", "20a", "20b"))
	checkPlacements(t, impl.Board{}, placementsOf(
		"00a", "00b", "01a", "01b", "02a", "02b", "03a", "03b", "10a", "10b", "11a", "11b", "12a", "12b", "13a", "13b",
		"20a", "20b", "21a", "21b", "22a", "22b", "23a", "23b", "30a", "30b", "31a", "31b", "32a", "32b", "33a", "33b",
	))
	for _, b := range sampleBoards() {
		checkPlacements(t, b, plainPlacements(b))
	}
}

func checkPlaced(t *testing.T, b impl.Board, p [3]int, want impl.Board, fine bool) {
	t.Helper()
	if placed, ok := impl.PlaceTile(b, p); ok != fine || placed != want {
		t.Errorf("PlaceTile(%v, %v) = %v, %v, not %v, %v", b, p, placed, ok, want, fine)
	}
}

func TestPlaceTile(t *testing.T) {
	checkPlaced(t, impl.Board{}, placement("00a"), boardOf("a..."), true)
	checkPlaced(t, impl.Board{}, placement("12b"), boardOf("..../..b./..../...."), true)
	checkPlaced(t, impl.Board{}, placement("30b"), boardOf("..../..../..../b..."), true)
	checkPlaced(t, boardOf("acac/caca/acac/cac."), placement("33b"), boardOf("acac/caca/acac/cacb"), true)
	checkPlaced(t, boardOf("a..."), placement("00a"), impl.Board{}, false)
	checkPlaced(t, boardOf("a..."), placement("00b"), impl.Board{}, false)
	for _, b := range worstSamples() {
		for number := range 32 {
			p := [3]int{number / 8, number / 2 % 4, number%2 + 1}
			if b.Rows[p[0]][p[1]] == 0 {
				checkPlaced(t, b, p, plainPlaced(b, p), true)
				continue
			}
			checkPlaced(t, b, p, impl.Board{}, false)
		}
	}
}

func TestWrongPlacementsAreRefused(t *testing.T) {
	for _, b := range append(goodBoards(), boardOf("acac/caca/acac/cac.")) {
		for _, cell := range wrongCells() {
			checkPlaced(t, b, [3]int{cell[0], cell[1], 1}, impl.Board{}, false)
			checkPlaced(t, b, [3]int{cell[0], cell[1], 2}, impl.Board{}, false)
		}
		for _, tile := range append(wrongNumbers(), 0, 3, 4, impl.MaxTile) {
			for cell := range 16 {
				checkPlaced(t, b, [3]int{cell / 4, cell % 4, tile}, impl.Board{}, false)
			}
		}
	}
}

func checkDead(t *testing.T, b impl.Board, want [][3]int) {
	t.Helper()
	if dead, ok := impl.DeadPlaces(b); !ok || !slices.Equal(dead, want) {
		t.Errorf("DeadPlaces(%v) = %v, %v, not %v", b, dead, ok, want)
	}
}

func TestDeadPlaces(t *testing.T) {
	for text, want := range map[string][][3]int{
		"acac/caca/acac/cac.": placementsOf("33a", "33b"),
		".cac/caca/acac/caca": placementsOf("00a", "00b"),
		"qqqq/qqqq/qq.q/qqqq": placementsOf("22a", "22b"),
		// A tile beside the empty cell meets a new one.
		"cdef/ghij/klma/opq.": placementsOf("33b"),
		"cdef/ghij/klmb/opq.": placementsOf("33a"),
		"cdef/ghij/a.kl/mnop": placementsOf("21b"),
		"cdef/ghij/klmb/opa.": {},
		// Others meet anyway.
		"cdef/ghij/kkmn/opq.": {}, "aaaa/aaaa/aaaa/aaa.": {}, "qqqq/ppqq/qqqq/qqq.": {},
		// There is another empty cell, and in the second Board behind some placements just one move.
		"acac/caca/acac/ca..": {}, "qpon/mlkj/hgf./....": {}, "qqqq/.qqq/qqqq/qqq.": {}, "q...": {}, "a...": {},
		// Full Boards that are over or not.
		"aaaa/aaaa/aaaa/aaaa": {}, "qqqq/qqqq/qqqq/qqpp": {},
	} {
		checkDead(t, boardOf(text), want)
	}
	for _, b := range overBoards() {
		checkDead(t, b, [][3]int{})
	}
	answers := map[int]int{}
	for _, b := range append(worstSamples(), crampedBoards()...) {
		want := plainDead(b)
		answers[len(want)]++
		checkDead(t, b, want)
	}
	if answers[0] < 100 || answers[1] < 20 || answers[2] < 100 {
		t.Error("one number of places is rare:", answers)
	}
}

func checkWorst(t *testing.T, b impl.Board, want [3]int, few int, fine bool) {
	t.Helper()
	if worst, moves, ok := impl.WorstTile(b); ok != fine || worst != want || moves != few {
		t.Errorf("WorstTile(%v) = %v, %d, %v, not %v, %d, %v", b, worst, moves, ok, want, few, fine)
	}
}

func TestWorstTile(t *testing.T) {
	for text, want := range map[string]struct {
		worst string
		moves int
	}{
		"acac/caca/acac/cac.": {"33a", 0}, "cdef/ghij/klma/opq.": {"33b", 0}, "cdef/ghij/klmb/opq.": {"33a", 0},
		"cdef/ghij/klmb/opa.": {"33a", 2}, "aaaa/aaaa/aaaa/aaa.": {"33a", 4}, "cdef/ghij/.kkl/mnop": {"20a", 2},
		// In a corner only two sides are left to slide to.
		emptyText: {"00a", 2}, "b...": {"01a", 2}, ".b..": {"00a", 2}, "a...": {"01b", 2},
		// The only placement that leaves just one move: in the other corner of the row is a tile already.
		"qpon/mlkj/hgf./....": {"23a", 1}, "qpon/mlkj/hgfe/....": {"30a", 2}, "qpon/mlkj/hgf./cde.": {"23a", 2},
	} {
		checkWorst(t, boardOf(text), placement(want.worst), want.moves, true)
	}
	for _, b := range append(overBoards()[1:], fullOf(1), fullOf(impl.MaxTile), boardOf("abcd/efgh/ijkl/mnaa")) {
		checkWorst(t, b, [3]int{}, 0, false)
	}
	later := map[int]int{}
	for _, b := range append(worstSamples(), reachSamples()...) {
		worst, few := plainWorst(b)
		checkWorst(t, b, worst, few, worst[2] > 0)
		later[slices.Index(plainPlacements(b), worst)]++
	}
	if later[0] < 100 || later[1] < 20 || later[2] < 20 || len(later) < 10 {
		t.Error("the same placements are the worst ones:", later)
	}
}

// lastingTold tells how many moves a Board lasts, its safe moves for 1, 2 and 3, and of each move
// that is refuted the direction, the number of moves and the placement.
func lastingTold(b impl.Board) string {
	how, ok := impl.LastsHow(b)
	told := fmt.Sprintf("%d %v", how, ok)
	for n := 1; n <= 3; n++ {
		safe, ok := impl.SafeMoves(b, n)
		told += fmt.Sprintf(" %v %v", safe, ok)
	}
	for n := 1; n <= 3; n++ {
		for direction := range 4 {
			if p, ok := impl.RefuteMove(b, direction, n); ok {
				told += fmt.Sprintf(" %c%d:%s", "lurd"[direction], n, placementText(p))
			}
		}
	}
	return told
}

// checkTold checks what is told of Boards, and that the same is told of all that are over.
func checkTold(t *testing.T, tell func(impl.Board) string, over string, wanted map[string]string) {
	t.Helper()
	for _, text := range overTexts() {
		wanted[text] = over
	}
	for text, want := range wanted {
		if told := tell(boardOf(text)); told != want {
			t.Errorf("%s: %s, not %s", text, told, want)
		}
	}
}

func TestLastingOfKnownBoards(t *testing.T) {
	checkTold(t, lastingTold, "0 true [] true [] true [] true", map[string]string{
		// Open Boards last.
		"a...": "3 true [2 3] true [2 3] true [2 3] true",
		".q..": "3 true [0 2 3] true [0 2 3] true [0 2 3] true",
		// A single empty cell. In the first Board, both moves bring equal tiles together.
		"acac/caca/acac/cac.": "3 true [2 3] true [2 3] true [2 3] true",
		"qqqq/qqqq/qqqq/qqq.": "1 true [2 3] true [] true [] true r2:30a d2:03a r3:30a d3:03a",
		// Behind the slide to the right, a new tile 1 meets another one, but a new tile 2 does not.
		// When the first ones have merged, another new tile 1 meets none.
		"cdef/ghij/almn/opq.": "1 true [2 3] true [] true [] true r2:30b d2:03a r3:30a d3:03a",
		// There both do. Behind the new tile 1 a slide down brings two tiles 2 together; behind the
		// new tile 2 either slide to the side can be the last one.
		"cdef/ghij/almn/bop.": "2 true [2 3] true [2] true [] true d2:03a r3:30b d3:03a",
		// Full Boards with one pair, or two in one row, of which one can wait.
		"cdef/ghij/klmn/opee": "1 true [0 2] true [] true [] true l2:33a r2:30a l3:33a r3:30a",
		"cdef/ghij/klma/opee": "1 true [0 2] true [] true [] true l2:33b r2:30a l3:33a r3:30a",
		"ccdd/ghij/klmn/opqe": "2 true [0 2] true [0 2] true [] true l3:02a r3:00a",
		"cdef/ghij/klmn/ppoo": "2 true [0 2] true [0 2] true [] true l3:32a r3:30a",
		"qqqq/qqqq/qqqq/qqpp": "1 true [0 2] true [] true [] true l2:33a r2:30a l3:33a r3:30a",
		// Two empty cells.
		"cdef/ghij/klmn/op..": "2 true [2 3] true [2 3] true [] true r3:30a d3:02a",
		"cdef/ghij/klmn/o.p.": "2 true [0 2 3] true [0 2 3] true [] true l3:32a r3:30a d3:01a",
	})
}

func checkLasts(t *testing.T, b impl.Board, n int, want bool, fine bool) {
	t.Helper()
	if lasts, ok := impl.Lasts(b, n); ok != fine || lasts != want {
		t.Errorf("Lasts(%v, %d) = %v, %v, not %v, %v", b, n, lasts, ok, want, fine)
	}
}

func checkRefuted(t *testing.T, b impl.Board, direction int, n int, want [3]int, fine bool) {
	t.Helper()
	if p, ok := impl.RefuteMove(b, direction, n); ok != fine || p != want {
		t.Errorf("RefuteMove(%v, %d, %d) = %v, %v, not %v, %v", b, direction, n, p, ok, want, fine)
	}
}

func TestLastsAndLastsHow(t *testing.T) {
	answers := [4]int{}
	for _, b := range worstSamples() {
		how := 0
		for n := 0; n <= 3; n++ {
			want := plainLasts(b, n)
			checkLasts(t, b, n, want, true)
			if want {
				how = n
			}
		}
		answers[how]++
		if n, ok := impl.LastsHow(b); !ok || n != how {
			t.Errorf("LastsHow(%v) = %d, %v, not %d", b, n, ok, how)
		}
	}
	if slices.Min(answers[:]) < 50 {
		t.Error("one answer is rare:", answers)
	}
}

func TestSafeMovesAndRefuteMove(t *testing.T) {
	later, some := map[int]int{}, [4]int{}
	for _, b := range worstSamples() {
		for n := 1; n <= 3; n++ {
			want := plainSafe(b, n)
			if safe, ok := impl.SafeMoves(b, n); !ok || !slices.Equal(safe, want) {
				t.Errorf("SafeMoves(%v, %d) = %v, %v, not %v", b, n, safe, ok, want)
			}
			if len(want) > 0 && len(want) < len(plainMoves(b)) {
				some[n]++
			}
			for direction := range 4 {
				slid, _, _ := plainSlide(b, direction)
				p, refuted := plainRefute(slid, n-1)
				if slid == b || !refuted {
					checkRefuted(t, b, direction, n, [3]int{}, false)
					continue
				}
				checkRefuted(t, b, direction, n, p, true)
				later[slices.Index(plainPlacements(slid), p)]++
			}
		}
	}
	if some[1] > 0 || some[2] < 20 || some[3] < 20 || later[0] < 100 || later[1] < 20 || later[2] < 20 || later[3] < 5 {
		t.Error("only some moves are safe for", some, "times, and the placements that refute others are", later)
	}
}

// Promise 8, its first part.
func TestASafeMoveIsOneThatNoPlacementRefutes(t *testing.T) {
	for _, b := range worstSamples() {
		moves, _ := impl.MovesOf(b)
		for n := 1; n <= 3; n++ {
			safe, ok := impl.SafeMoves(b, n)
			if !ok || !slices.IsSorted(safe) {
				t.Errorf("SafeMoves(%v, %d) = %v, %v", b, n, safe, ok)
			}
			for direction := range 4 {
				p, refuted := impl.RefuteMove(b, direction, n)
				is := slices.Contains(moves, direction) && !refuted
				if slices.Contains(safe, direction) != is {
					t.Errorf("%v has the moves %v, of which %v are safe for %d, and %d is refuted: %v", b, moves, safe, n, direction, refuted)
				}
				if is || refuted {
					checkFirstRefuter(t, b, direction, n, p, refuted)
				}
			}
			if lasts, ok := impl.Lasts(b, n); !ok || lasts != (len(safe) > 0) {
				t.Errorf("Lasts(%v, %d) = %v, %v, and safe are %v", b, n, lasts, ok, safe)
			}
		}
	}
}

// checkFirstRefuter checks that the Board behind a move lasts one move less after each placement
// before the one that refutes the move, and not after that; or after all of them.
func checkFirstRefuter(t *testing.T, b impl.Board, direction int, n int, refuter [3]int, refuted bool) {
	t.Helper()
	slid, _, _ := impl.SlideBoard(b, direction)
	all, _ := impl.PlacementsOf(slid)
	if len(all) == 0 || refuted != slices.Contains(all, refuter) {
		t.Errorf("%v to %d is refuted by %v, of the placements %v", b, direction, refuter, all)
	}
	for _, p := range all {
		next, placed := impl.PlaceTile(slid, p)
		lasts, ok := impl.Lasts(next, n-1)
		if !placed || !ok || lasts == (refuted && p == refuter) {
			t.Errorf("%v to %d, behind %v: %v, and %v is told to refute it", b, direction, p, lasts, refuter)
		}
		if refuted && p == refuter {
			return
		}
	}
}

// sureTold tells the sure scores of a Board in 0, 1 and 2 moves, the best moves for 1 and 2, and
// for each move and each n the worst reply and its score.
func sureTold(b impl.Board) string {
	told := ""
	for n := range 3 {
		sure, ok := impl.SureScore(b, n)
		told += fmt.Sprint(sure, " ", ok, " ")
	}
	for n := 1; n <= 2; n++ {
		best, ok := impl.BestSure(b, n)
		told += fmt.Sprint(best, " ", ok, " ")
	}
	for n := range 2 {
		for direction := range 4 {
			if p, least, ok := impl.WorstReply(b, direction, n); ok {
				told += fmt.Sprintf("%c%d:%s=%d ", "lurd"[direction], n, placementText(p), least)
			}
		}
	}
	return told
}

func TestSureScoresOfKnownBoards(t *testing.T) {
	checkTold(t, sureTold, "0 true 0 true 0 true 0 false 0 false ", map[string]string{
		"aabb": "0 true 12 true 12 true 0 true 0 true l0:02a=0 r0:00a=0 d0:00a=0 l1:02a=0 r1:00a=0 d1:00a=12 ",
		// No move scores; but only behind a slide up or down no new tile 2 comes between the two.
		".a../..../a.../....": "0 true 0 true 4 true 0 true 1 true l0:01a=0 u0:02a=0 r0:00a=0 d0:00a=0 l1:10b=0 u1:02a=4 r1:13b=0 d1:00a=4 ",
		"a.../..../a.../....": "0 true 4 true 4 true 1 true 1 true u0:01a=0 r0:00a=0 d0:00a=0 u1:01a=0 r1:13b=0 d1:00a=0 ",
		// The tiles that come out of the first merger merge, too.
		"aabc":                "0 true 4 true 12 true 0 true 0 true l0:03a=0 r0:00a=0 d0:00a=0 l1:03a=8 r1:00a=8 d1:00a=4 ",
		"aab./..../..../c...": "0 true 4 true 12 true 0 true 0 true l0:02a=0 u0:03a=0 r0:00a=0 d0:00a=0 l1:02a=8 u1:03a=4 r1:00a=8 d1:00b=0 ",
		// Tiles MaxTile do not merge; a single empty cell, and a full Board.
		"qq..":                "0 true 0 true 0 true 2 true 2 true r0:00a=0 d0:00a=0 r1:00a=0 d1:00a=0 ",
		"qqqq/qqqq/qqqq/qqq.": "0 true 0 true 0 true 2 true 2 true r0:30a=0 d0:03a=0 r1:30a=0 d1:03a=0 ",
		"qqqq/qqqq/qqqq/qqpp": "0 true 131072 true 131072 true 0 true 0 true l0:33a=0 r0:30a=0 l1:33a=0 r1:30a=0 ",
		"cdef/ghij/almn/opq.": "0 true 0 true 0 true 2 true 2 true r0:30a=0 d0:03a=0 r1:30b=0 d1:03a=0 ",
		"cdef/ghij/almn/bop.": "0 true 0 true 4 true 2 true 2 true r0:30a=0 d0:03a=0 r1:30a=4 d1:03a=0 ",
	})
}

// sureSamples returns worstSamples, and Boards with few different tiles that merge.
func sureSamples() []impl.Board {
	boards := append(reachSamples(), worstSamples()...)
	source := rand.New(rand.NewSource(82))
	for _, kind := range [][2]int{{2, 2}, {3, 3}, {5, 3}, {8, 4}, {4, 5}} {
		for range 40 {
			boards = append(boards, randomBoard(source, kind[0], 1, kind[1]))
		}
	}
	return boards
}

func checkSure(t *testing.T, b impl.Board, n int, want int, fine bool) {
	t.Helper()
	if sure, ok := impl.SureScore(b, n); ok != fine || sure != want {
		t.Errorf("SureScore(%v, %d) = %d, %v, not %d, %v", b, n, sure, ok, want, fine)
	}
}

func checkBest(t *testing.T, b impl.Board, n int, want int, fine bool) {
	t.Helper()
	if best, ok := impl.BestSure(b, n); ok != fine || best != want {
		t.Errorf("BestSure(%v, %d) = %d, %v, not %d, %v", b, n, best, ok, want, fine)
	}
}

func checkReply(t *testing.T, b impl.Board, direction int, n int, want [3]int, least int, fine bool) {
	t.Helper()
	if p, sure, ok := impl.WorstReply(b, direction, n); ok != fine || p != want || sure != least {
		t.Errorf("WorstReply(%v, %d, %d) = %v, %d, %v, not %v, %d, %v", b, direction, n, p, sure, ok, want, least, fine)
	}
}

func TestSureScoreAndBestSure(t *testing.T) {
	bests, other := [4]int{}, 0
	for _, b := range sureSamples() {
		checkSure(t, b, 0, 0, true)
		moves := plainMoves(b)
		greedy := 0
		for n := 1; n <= 2; n++ {
			checkSure(t, b, n, plainSure(b, n), true)
			if len(moves) == 0 {
				checkBest(t, b, n, 0, false)
				continue
			}
			sures := plainSures(b, n)
			best := moves[slices.Index(sures, slices.Max(sures))]
			checkBest(t, b, n, best, true)
			bests[best]++
			if n == 1 {
				greedy = best
			}
			if best != greedy {
				other++
			}
		}
	}
	if slices.Min(bests[:]) < 30 || other < 100 {
		t.Error("the best moves are", bests, "and", other, "others for 2 moves than for 1")
	}
}

func TestWorstReply(t *testing.T) {
	later, scores := map[int]int{}, 0
	for _, b := range sureSamples() {
		for direction := range 4 {
			slid, _, _ := plainSlide(b, direction)
			for n := range 2 {
				if slid == b {
					checkReply(t, b, direction, n, [3]int{}, 0, false)
					continue
				}
				p, least := plainReply(slid, n)
				checkReply(t, b, direction, n, p, least, true)
				later[slices.Index(plainPlacements(slid), p)]++
				scores += min(least, 1)
			}
		}
	}
	if later[0] < 100 || later[1] < 50 || later[2] < 50 || later[3] < 20 || scores < 500 {
		t.Error("the worst replies are", later, "and", scores, "of them leave a score")
	}
}

// Promise 8, its second part.
func TestTheSureScoreIsThatOfTheWorstReplyToTheBestMove(t *testing.T) {
	for _, b := range sureSamples() {
		for n := 1; n <= 2; n++ {
			sure, ok := impl.SureScore(b, n)
			best, found := impl.BestSure(b, n)
			if !ok || found != (len(plainMoves(b)) > 0) {
				t.Errorf("%v in %d moves: %d, %v, and the best is %d, %v", b, n, sure, ok, best, found)
			}
			for direction := range 4 {
				_, score, _ := impl.SlideBoard(b, direction)
				_, least, is := impl.WorstReply(b, direction, n-1)
				if !is {
					continue
				}
				equal, greater := score+least == sure, score+least > sure
				if direction == best && !equal || direction < best && equal || greater {
					t.Errorf("%v in %d moves: %d, by %d; and %d scores %d and %d", b, n, sure, best, direction, score, least)
				}
			}
			if !found && sure != 0 {
				t.Errorf("%v has no move, and the sure score %d", b, sure)
			}
		}
	}
}

// A worst reply leaves what it tells, and no other one leaves less.
func TestNoReplyLeavesLessThanTheWorstOne(t *testing.T) {
	for i, b := range sureSamples() {
		direction := i % 4
		p, least, ok := impl.WorstReply(b, direction, 1)
		if !ok {
			continue
		}
		slid, _, _ := impl.SlideBoard(b, direction)
		all, _ := impl.PlacementsOf(slid)
		for k, other := range all {
			next, _ := impl.PlaceTile(slid, other)
			sure, _ := impl.SureScore(next, 1)
			if sure < least || other == p && sure != least || k < slices.Index(all, p) && sure == least {
				t.Errorf("%v to %d: %v leaves %d, and %v %d", b, direction, p, least, other, sure)
			}
		}
	}
}

// The guarantee of the chapter.
func TestTheWorstNewTileKeepsTheGuarantee(t *testing.T) {
	for _, b := range sureSamples() {
		lasted := true
		how, _ := impl.LastsHow(b)
		for n := range 4 {
			lasts, ok := impl.Lasts(b, n)
			if !ok || lasts && !lasted || lasts != (n <= how) {
				t.Errorf("Lasts(%v, %d) = %v, %v, and it lasts %d", b, n, lasts, ok, how)
			}
			lasted = lasts
		}
		over, _ := impl.IsOver(b)
		checkLasts(t, b, 1, !over, true)
		most := 0
		for direction := range 4 {
			_, score, _ := impl.SlideBoard(b, direction)
			most = max(most, score)
		}
		checkSure(t, b, 1, most, true)
	}
}

// Forms last as long, and score as much, as their Board.
func TestFormsLastAsLong(t *testing.T) {
	for i, b := range worstSamples() {
		k := 1 + i%7
		form, _ := impl.FormBoard(b, k)
		how, _ := impl.LastsHow(b)
		if other, ok := impl.LastsHow(form); !ok || other != how {
			t.Errorf("%v lasts %d, and its form %d %d, %v", b, how, k, other, ok)
		}
		sure, _ := impl.SureScore(b, 2)
		checkSure(t, form, 2, sure, true)
		safe, _ := impl.SafeMoves(b, 2)
		for j, direction := range safe {
			safe[j], _ = impl.FormSide(k, direction)
		}
		slices.Sort(safe)
		if others, ok := impl.SafeMoves(form, 2); !ok || !slices.Equal(others, safe) {
			t.Errorf("SafeMoves(%v, 2) = %v, %v, not %v", form, others, ok, safe)
		}
	}
}

func checkNoSafeMoves(t *testing.T, b impl.Board, n int) {
	t.Helper()
	if safe, ok := impl.SafeMoves(b, n); ok || len(safe) != 0 {
		t.Errorf("SafeMoves(%v, %d) = %v, %v", b, n, safe, ok)
	}
}

func TestWrongNumbersOfMovesAreRefused(t *testing.T) {
	for _, b := range append(goodBoards(), boardOf("acac/caca/acac/cac.")) {
		for _, n := range wrongLastings() {
			checkLasts(t, b, n, false, false)
			checkSure(t, b, n, 0, false)
			checkNoSafeMoves(t, b, n)
			checkBest(t, b, n, 0, false)
			for direction := range 4 {
				checkRefuted(t, b, direction, n, [3]int{}, false)
				checkReply(t, b, direction, n, [3]int{}, 0, false)
			}
		}
		// Good ones for another function.
		checkSure(t, b, 3, 0, false)
		checkNoSafeMoves(t, b, 0)
		checkBest(t, b, 0, 0, false)
		checkBest(t, b, 3, 0, false)
		for direction := range 4 {
			checkRefuted(t, b, direction, 0, [3]int{}, false)
			checkReply(t, b, direction, 2, [3]int{}, 0, false)
			checkReply(t, b, direction, 3, [3]int{}, 0, false)
		}
	}
}

func TestWrongDirectionsAreNeitherRefutedNorReplied(t *testing.T) {
	for _, b := range append(goodBoards(), boardOf("acac/caca/acac/cac."), boardOf("qqqq/qqqq/qqqq/qqq.")) {
		for _, direction := range wrongDirections() {
			for n := -1; n <= 4; n++ {
				checkRefuted(t, b, direction, n, [3]int{}, false)
				checkReply(t, b, direction, n, [3]int{}, 0, false)
			}
		}
	}
}

// worstResults tells what the functions of one Board return, and whether they are zero values
// and false.
func worstResults(b impl.Board, n int) (string, bool) {
	all, one := impl.PlacementsOf(b)
	placed, two := impl.PlaceTile(b, [3]int{3, 3, 1})
	dead, three := impl.DeadPlaces(b)
	worst, few, four := impl.WorstTile(b)
	lasts, five := impl.Lasts(b, n)
	how, six := impl.LastsHow(b)
	safe, seven := impl.SafeMoves(b, n)
	refuter, eight := impl.RefuteMove(b, n, n)
	sure, nine := impl.SureScore(b, n)
	best, ten := impl.BestSure(b, n)
	reply, least, eleven := impl.WorstReply(b, n, n)
	told := fmt.Sprint(all, one, placed, two, dead, three, worst, few, four, lasts, five, how, six, safe, seven, refuter, eight, sure, nine, best, ten, reply, least, eleven)
	zero := len(all) == 0 && placed == impl.Board{} && len(dead) == 0 && worst == [3]int{} && few == 0 && !lasts && how == 0
	empty := len(safe) == 0 && refuter == [3]int{} && sure == 0 && best == 0 && reply == [3]int{} && least == 0
	fails := !one && !two && !three && !four && !five && !six && !seven && !eight && !nine && !ten && !eleven
	return told, zero && empty && fails
}

func TestWrongBoardsHaveNoWorstTile(t *testing.T) {
	for _, b := range wrongBoards() {
		for n := range 4 {
			if told, none := worstResults(b, n); !none {
				t.Errorf("%v: %s", b, told)
			}
			for direction := range 4 {
				checkRefuted(t, b, direction, n, [3]int{}, false)
				checkReply(t, b, direction, n, [3]int{}, 0, false)
			}
		}
		for number := range 32 {
			checkPlaced(t, b, [3]int{number / 8, number / 2 % 4, number%2 + 1}, impl.Board{}, false)
		}
	}
}

// Promise 13.
func TestWorstFunctionsReturnTheSameForTheSame(t *testing.T) {
	for i, b := range append(worstSamples(), wrongBoards()...) {
		kept := b
		first, _ := worstResults(b, i%4)
		told := lastingTold(b) + sureTold(b)
		if again, _ := worstResults(b, i%4); again != first || b != kept || lastingTold(b)+sureTold(b) != told {
			t.Errorf("%v: %s, then %s, and first %s", b, first, again, told)
		}
	}
}

func TestListsOfPlacementsAndMovesAreNewMemory(t *testing.T) {
	b := boardOf("acac/caca/acac/cac.")
	all, _ := impl.PlacementsOf(b)
	dead, _ := impl.DeadPlaces(b)
	safe, _ := impl.SafeMoves(b, 2)
	told := fmt.Sprint(all, dead, safe)
	for i := range all {
		all[i] = [3]int{99, 99, 99}
	}
	_ = append(all[:1], [3]int{66, 66, 66})
	if len(dead) != 2 || dead[0] != placement("33a") || dead[1] != placement("33b") {
		t.Error("the dead places are", dead)
	}
	for i := range dead {
		dead[i] = [3]int{88, 88, 88}
	}
	for i := range safe {
		safe[i] = 77
	}
	_ = append(safe[:1], 55)
	all, _ = impl.PlacementsOf(b)
	dead, _ = impl.DeadPlaces(b)
	safe, _ = impl.SafeMoves(b, 2)
	if len(all) != 2 || len(safe) != 2 || fmt.Sprint(all, dead, safe) != told {
		t.Errorf("%s, and behind the changes %v, %v, %v", told, all, dead, safe)
	}
}
