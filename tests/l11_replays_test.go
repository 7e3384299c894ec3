package tests

import (
	"fmt"
	"math"
	"math/rand"
	"slices"
	"strings"
	"sync"
	"testing"

	"loop.example/g01194/impl"
)

// replayOf reads a Replay from the text of its Start and those of its Steps.
func replayOf(start string, steps ...string) impl.Replay {
	return impl.Replay{Start: boardOf(start), Steps: stepsOf(steps...)}
}

func isSameReplay(r impl.Replay, q impl.Replay) bool {
	return r.Start == q.Start && slices.Equal(r.Steps, q.Steps)
}

// plainReplayed returns all Boards of a Replay and the sum of the scores; false if a Step is none
// of its Board, the Start is not valid, or there are too many Steps.
func plainReplayed(r impl.Replay) ([]impl.Board, int, bool) {
	for _, n := range cellsOf(r.Start) {
		if n < 0 || n > impl.MaxTile {
			return nil, 0, false
		}
	}
	boards, sum := []impl.Board{r.Start}, 0
	for k, s := range r.Steps {
		if k == impl.MaxReplay || s.Direction < left || s.Direction > down || !slices.Contains(plainSteps(boards[k], s.Direction), s) {
			return nil, 0, false
		}
		next, score := plainStep(boards[k], s)
		boards, sum = append(boards, next), sum+score
	}
	return boards, sum, true
}

// plainReplayText writes a Replay whose Boards and Steps need not be valid.
func plainReplayText(r impl.Replay) string {
	rows := []string{}
	for _, row := range r.Start.Rows {
		text := ""
		for _, tile := range row {
			text += string(".abcdefghijklmnopq"[tile])
		}
		rows = append(rows, text)
	}
	text := strings.Join(rows, "/")
	for _, s := range r.Steps {
		text += " " + plainStepText(s)
	}
	return text
}

func plainStepText(s impl.Step) string {
	return fmt.Sprintf("%c%d%d%c", "lurd"[s.Direction], s.Cell[0], s.Cell[1], 'a'+s.Tile-1)
}

// plainParsed reads a text byte by byte, and then asks whether the Replay is valid.
func plainParsed(s string) (impl.Replay, bool) {
	if len(s) < 19 || (len(s)-19)%5 != 0 {
		return impl.Replay{}, false
	}
	for i := range len(s) {
		wanted := ".abcdefghijklmnopq"
		if i < 19 && i%5 == 4 {
			wanted = "/"
		} else if i >= 19 {
			wanted = []string{" ", "lurd", "0123", "0123", "ab"}[(i-19)%5]
		}
		if strings.IndexByte(wanted, s[i]) < 0 {
			return impl.Replay{}, false
		}
	}
	r := replayOf(s[:19])
	for i := 20; i < len(s); i += 5 {
		r.Steps = append(r.Steps, step(s[i:i+4]))
	}
	if _, _, ok := plainReplayed(r); !ok {
		return impl.Replay{}, false
	}
	return r, true
}

// plainTileBy returns the new tile by a seed on a Board that has an empty cell.
func plainTileBy(b impl.Board, seed int) ([2]int, int) {
	cells := [][2]int{}
	for cell := range 16 {
		if b.Rows[cell/4][cell%4] == 0 {
			cells = append(cells, [2]int{cell / 4, cell % 4})
		}
	}
	hex := fmt.Sprintf("%04x", seed)
	tile := 1
	if hex[3] == '0' {
		tile = 2
	}
	number := 0
	fmt.Sscanf(hex[:3], "%x", &number)
	for number >= len(cells) {
		number -= len(cells)
	}
	return cells[number], tile
}

func plainNextSeed(seed int) int { return int(uint16(seed)*25173 + 13849) }

// plainPlay makes one Step after the other by an order and seeds, and calls itself for the rest.
func plainPlay(b impl.Board, order [4]int, seed int, n int) ([]impl.Step, int) {
	moves := plainMoves(b)
	if n == 0 || len(moves) == 0 {
		return []impl.Step{}, seed
	}
	first := order[0]
	for i := 3; i >= 0; i-- {
		if slices.Contains(moves, order[i]) {
			first = order[i]
		}
	}
	slid, _, _ := plainSlide(b, first)
	cell, tile := plainTileBy(slid, seed)
	s := impl.Step{Direction: first, Cell: cell, Tile: tile}
	next, _ := plainStep(b, s)
	rest, last := plainPlay(next, order, plainNextSeed(seed), n-1)
	return append([]impl.Step{s}, rest...), last
}

// allOrders returns all lists of four directions; the good ones have each direction once.
func allOrders() (good [][4]int, wrong [][4]int) {
	for number := range 256 {
		order := [4]int{number / 64, number / 16 % 4, number / 4 % 4, number % 4}
		sorted := order
		slices.Sort(sorted[:])
		if sorted == [4]int{left, up, right, down} {
			good = append(good, order)
		} else {
			wrong = append(wrong, order)
		}
	}
	return good, wrong
}

// wrongOrders returns orders that have a direction twice, or a number that is none.
func wrongOrders() [][4]int {
	_, wrong := allOrders()
	for _, n := range wrongDirections() {
		for place := range 4 {
			order := [4]int{right, left, down, up}
			order[place] = n
			wrong = append(wrong, order)
		}
		wrong = append(wrong, [4]int{n, n, n, n})
	}
	return append(wrong, [4]int{1, 2, 3, 4}, [4]int{-1, 0, 1, 2}, [4]int{-1, 1, 3, 3}, [4]int{0, 0, 3, 3}, [4]int{4, 5, 6, 7})
}

func wrongSeeds() []int {
	return []int{-1, 65536, 65537, -16, -65535, -65536, 1 << 17, 1 << 32, 1<<32 + 1, math.MaxInt, math.MinInt, math.MinInt + 1}
}

func wrongCounts() []int {
	return []int{-1, 41, 42, -40, 256, 1 << 32, 1<<32 + 1, math.MaxInt, math.MinInt}
}

// sampleReplays holds Replays with 0..MaxReplay Steps from Boards of all kinds, some of which are
// over at the end.
var sampleReplays = sync.OnceValue(func() []impl.Replay {
	replays := []impl.Replay{{}, {Start: boardOf("a...")}, {Start: fullOf(impl.MaxTile), Steps: []impl.Step{}}}
	source := rand.New(rand.NewSource(111))
	boards := slices.Concat(reachSamples(), crampedBoards()[:100], overBoards())
	for i, b := range boards {
		steps, _ := randomSteps(source, b, i*7%(impl.MaxReplay+1))
		replays = append(replays, impl.Replay{Start: b, Steps: steps})
	}
	return replays
})

// fullReplays returns Replays with MaxReplay Steps.
func fullReplays() []impl.Replay {
	replays := []impl.Replay{}
	source := rand.New(rand.NewSource(112))
	for _, b := range append(reachSamples(), boardOf("a..."), boardOf("q...")) {
		steps, end := randomSteps(source, b, impl.MaxReplay)
		// There has to be one more step, so that only the number of Steps hinders it.
		if len(steps) == impl.MaxReplay && len(plainMoves(end.board)) > 0 {
			replays = append(replays, impl.Replay{Start: b, Steps: steps})
		}
	}
	return replays
}

// longerBy returns the Steps of a Replay with one more behind them, in new memory.
func longerBy(r impl.Replay, s impl.Step) impl.Replay {
	return impl.Replay{Start: r.Start, Steps: append(slices.Clone(r.Steps), s)}
}

// tooLong returns a Replay with one Step more than there may be, each of which is a step.
func tooLong(r impl.Replay) impl.Replay {
	boards, _, _ := plainReplayed(r)
	return longerBy(r, plainAllSteps(boards[len(boards)-1])[0])
}

// wrongReplays holds Replays whose Starts or Steps are not valid, or that have too many Steps.
var wrongReplays = sync.OnceValue(func() []impl.Replay {
	replays := []impl.Replay{
		replayOf(emptyText, "l00a"), replayOf("abab/baba/abab/baba", "l00a"), replayOf("qqqq/qqqq/qqqq/qqqq", "d33a"),
		replayOf("a...", "l11a"), replayOf("a...", "u11a"), replayOf("a...", "r03a"), replayOf("a...", "r00c"),
		replayOf("a...", "r00a", "u33a"), replayOf("a...", "r00a", "l00a"), replayOf("a...", "r00a", "u33a", "l33a"),
		// The Board is over behind the first Step.
		replayOf("cdef/ghij/klmn/opq.", "r30a", "l33a"),
		{Start: boardOf("a..."), Steps: slices.Repeat(stepsOf("r00a"), 1000)},
		{Start: boardOf("abab/baba/abab/baba"), Steps: make([]impl.Step, 41)},
	}
	for _, b := range wrongBoards() {
		replays = append(replays, impl.Replay{Start: b}, impl.Replay{Start: b, Steps: stepsOf("l33a")})
	}
	for _, r := range fullReplays()[:20] {
		replays = append(replays, tooLong(r))
	}
	for i, s := range wrongSteps() {
		r := sampleReplays()[i%len(sampleReplays())]
		replays = append(replays, impl.Replay{Start: boardOf("a..."), Steps: []impl.Step{s}}, longerBy(r, s))
		if len(r.Steps) > 0 {
			broken := impl.Replay{Start: r.Start, Steps: slices.Clone(r.Steps)}
			broken.Steps[i%len(r.Steps)] = s
			replays = append(replays, broken)
		}
	}
	return replays
})

func checkBoardAt(t *testing.T, r impl.Replay, k int, want impl.Board, fine bool) {
	t.Helper()
	if b, ok := impl.BoardAt(r, k); ok != fine || b != want {
		t.Errorf("BoardAt(%v, %d) = %v, %v, not %v, %v", r, k, b, ok, want, fine)
	}
}

// checkReplayed checks what the functions of one Replay tell of its Boards.
func checkReplayed(t *testing.T, r impl.Replay, boards []impl.Board, sum int) {
	t.Helper()
	if !impl.IsReplay(r) {
		t.Errorf("IsReplay(%v) is false", r)
	}
	for k, b := range boards {
		checkBoardAt(t, r, k, b, true)
	}
	for _, k := range []int{-1, len(boards), len(boards) + 1, -len(boards), 1 << 32, math.MaxInt, math.MinInt} {
		checkBoardAt(t, r, k, impl.Board{}, false)
	}
	if score, ok := impl.ReplayScore(r); !ok || score != sum {
		t.Errorf("ReplayScore(%v) = %d, %v, not %d", r, score, ok, sum)
	}
	highest, first := 0, 0
	for k := len(boards) - 1; k >= 0; k-- {
		if most := slices.Max(cellsOf(boards[k])); most >= highest {
			highest, first = most, k
		}
	}
	if highest == 0 {
		first = 0
	}
	checkHighest(t, r, highest, first, highest > 0)
}

func checkHighest(t *testing.T, r impl.Replay, highest int, first int, fine bool) {
	t.Helper()
	if most, k, ok := impl.HighestIn(r); ok != fine || most != highest || k != first {
		t.Errorf("HighestIn(%v) = %d, %d, %v, not %d, %d, %v", r, most, k, ok, highest, first, fine)
	}
}

func TestKnownReplays(t *testing.T) {
	for _, c := range []struct {
		start, steps, boards string
		sum, highest, first  int
	}{
		{emptyText, "", emptyText, 0, 0, 0},
		{"q...", "", "q...", 0, 17, 0},
		{"abab/baba/abab/baba", "", "abab/baba/abab/baba", 0, 2, 0},
		{"qqqq/qqqq/qqqq/qqqq", "", "qqqq/qqqq/qqqq/qqqq", 0, 17, 0},
		{"a...", "r00a", "a... a..a", 0, 1, 0},
		// The new tile is the highest one.
		{"a...", "r00b", "a... b..a", 0, 2, 1},
		{"a...", "r00a l03a", "a... a..a b..a", 4, 2, 2},
		{"a...", "r00a l03b l33a u20a", "a... a..a b..b c.../..../..../...a c..a/..../a.../....", 12, 3, 3},
		{"aabb", "l03b l11a", "aabb bc.b bcb./.a../..../....", 12, 3, 1},
		{"pppp", "l33a r30b", "pppp qq../..../..../...a ..qq/..../..../b..a", 262144, 17, 1},
		{"cdef/ghij/klmn/opq.", "r30b", "cdef/ghij/klmn/opq. cdef/ghij/klmn/bopq", 0, 17, 0},
		{"cdef/ghij/klmn/opee", "l33a", "cdef/ghij/klmn/opee cdef/ghij/klmn/opfa", 64, 16, 0},
	} {
		boards := []impl.Board{}
		for _, text := range strings.Fields(c.boards) {
			boards = append(boards, boardOf(text))
		}
		r := replayOf(c.start, strings.Fields(c.steps)...)
		checkReplayed(t, r, boards, c.sum)
		checkHighest(t, r, c.highest, c.first, c.highest > 0)
	}
}

// Promise 11, its first part.
func TestAReplayHasItsBoardsStepByStep(t *testing.T) {
	over, lengths, late := 0, map[int]bool{}, 0
	for _, r := range slices.Concat(sampleReplays(), fullReplays()) {
		boards, sum, ok := plainReplayed(r)
		if !ok {
			t.Fatalf("the test is wrong for %v", r)
		}
		checkReplayed(t, r, boards, sum)
		lengths[len(r.Steps)] = true
		if _, first, _ := impl.HighestIn(r); first > 1 {
			late++
		}
		if last := boards[len(boards)-1]; len(plainMoves(last)) == 0 && len(r.Steps) > 0 {
			over++
		}
	}
	if len(lengths) != impl.MaxReplay+1 || over < 20 || late < 100 {
		t.Errorf("%d lengths, %d are over, %d have their highest tile late", len(lengths), over, late)
	}
}

func TestAReplayMayHaveMaxReplaySteps(t *testing.T) {
	full := fullReplays()
	if len(full) < 50 {
		t.Errorf("there are only %d", len(full))
	}
	for _, r := range full {
		more := tooLong(r)
		if !impl.IsReplay(r) || impl.IsReplay(more) {
			t.Errorf("IsReplay(%v) = %v, and with one more Step %v", r, impl.IsReplay(r), impl.IsReplay(more))
		}
		checkAdded(t, r, more.Steps[impl.MaxReplay], false)
		less := impl.Replay{Start: r.Start, Steps: r.Steps[:impl.MaxReplay-1]}
		checkAdded(t, less, r.Steps[impl.MaxReplay-1], true)
	}
}

func checkAdded(t *testing.T, r impl.Replay, s impl.Step, fine bool) {
	t.Helper()
	want := impl.Replay{}
	if fine {
		want = longerBy(r, s)
	}
	if more, ok := impl.AddStep(r, s); ok != fine || !isSameReplay(more, want) {
		t.Errorf("AddStep(%v, %v) = %v, %v, not %v, %v", r, s, more, ok, want, fine)
	}
}

func TestAddStep(t *testing.T) {
	checkAdded(t, replayOf("a..."), step("r00a"), true)
	checkAdded(t, replayOf("a..."), step("d33b"), true)
	checkAdded(t, replayOf("a...", "r00a"), step("l03b"), true)
	checkAdded(t, replayOf("cdef/ghij/klmn/opq."), step("r30a"), true)
	for _, c := range []struct {
		r impl.Replay
		s string
	}{
		// The slide is no move, or the cell has a tile behind it.
		{replayOf("a..."), "l33a"}, {replayOf("a..."), "u03b"}, {replayOf("a..."), "r03a"}, {replayOf("a...", "r00a"), "l00a"},
		{replayOf("a...", "r00a"), "u33a"},
		// The Board is over.
		{impl.Replay{}, "l00a"}, {replayOf("abab/baba/abab/baba"), "l00a"}, {replayOf("qqqq/qqqq/qqqq/qqqq"), "u00b"},
		{replayOf("cdef/ghij/klmn/opq.", "r30b"), "l33a"},
	} {
		checkAdded(t, c.r, step(c.s), false)
	}
}

func TestAddStepAddsJustTheSteps(t *testing.T) {
	for i, r := range sampleReplays() {
		if i%5 > 0 || len(r.Steps) == impl.MaxReplay {
			continue
		}
		boards, _, _ := plainReplayed(r)
		last := boards[len(boards)-1]
		for direction := range 4 {
			steps := plainSteps(last, direction)
			for cell := range 16 {
				for tile := 0; tile <= 3; tile++ {
					s := impl.Step{Direction: direction, Cell: [2]int{cell / 4, cell % 4}, Tile: tile}
					checkAdded(t, r, s, slices.Contains(steps, s))
				}
			}
		}
		checkAdded(t, r, wrongSteps()[i%len(wrongSteps())], false)
	}
	for _, s := range wrongSteps() {
		checkAdded(t, replayOf("a..."), s, false)
		checkAdded(t, replayOf("a...", "r00a"), s, false)
	}
}

func checkUndone(t *testing.T, r impl.Replay, k int, want impl.Replay, fine bool) {
	t.Helper()
	if less, ok := impl.UndoSteps(r, k); ok != fine || !isSameReplay(less, want) {
		t.Errorf("UndoSteps(%v, %d) = %v, %v, not %v, %v", r, k, less, ok, want, fine)
	}
}

func TestUndoSteps(t *testing.T) {
	r := replayOf("a...", "r00a", "l03b", "l33a")
	checkUndone(t, r, 0, r, true)
	checkUndone(t, r, 1, replayOf("a...", "r00a", "l03b"), true)
	checkUndone(t, r, 2, replayOf("a...", "r00a"), true)
	checkUndone(t, r, 3, replayOf("a..."), true)
	checkUndone(t, impl.Replay{}, 0, impl.Replay{}, true)
	for _, r := range slices.Concat(sampleReplays(), fullReplays()) {
		for k := range len(r.Steps) + 1 {
			checkUndone(t, r, k, impl.Replay{Start: r.Start, Steps: r.Steps[:len(r.Steps)-k]}, true)
		}
		for _, k := range []int{-1, len(r.Steps) + 1, len(r.Steps) + 2, -40, 41, 256, 1 << 32, math.MaxInt, math.MinInt} {
			checkUndone(t, r, k, impl.Replay{}, false)
		}
	}
}

func TestNextSeed(t *testing.T) {
	for seed, want := range map[int]int{0: 13849, 1: 39022, 2: 64195, 3: 23832, 39022: 61087, 61087: 20196, impl.MaxSeed: 54212} {
		if next, ok := impl.NextSeed(seed); !ok || next != want {
			t.Errorf("NextSeed(%d) = %d, %v, not %d", seed, next, ok, want)
		}
	}
	for seed := range impl.MaxSeed + 1 {
		if next, ok := impl.NextSeed(seed); !ok || next != plainNextSeed(seed) {
			t.Errorf("NextSeed(%d) = %d, %v, not %d", seed, next, ok, plainNextSeed(seed))
		}
	}
	// From each seed, one comes to all of them before it comes back.
	seed, round := 0, 0
	for ok := true; ok && (round == 0 || seed != 0); round++ {
		seed, ok = impl.NextSeed(seed)
	}
	if round != impl.MaxSeed+1 {
		t.Errorf("0 comes back behind %d seeds", round)
	}
	for _, wrong := range wrongSeeds() {
		if next, ok := impl.NextSeed(wrong); ok || next != 0 {
			t.Errorf("NextSeed(%d) = %d, %v", wrong, next, ok)
		}
	}
}

func checkSeedTile(t *testing.T, b impl.Board, seed int, want [2]int, tile int, fine bool) {
	t.Helper()
	if cell, made, ok := impl.SeedTile(b, seed); ok != fine || cell != want || made != tile {
		t.Errorf("SeedTile(%v, %d) = %v, %d, %v, not %v, %d, %v", b, seed, cell, made, ok, want, tile, fine)
	}
}

func TestSeedTile(t *testing.T) {
	for _, c := range []struct {
		board     string
		seed      int
		placement string
	}{
		{emptyText, 0, "00b"}, {emptyText, 1, "00a"}, {emptyText, 15, "00a"}, {emptyText, 16, "01b"}, {emptyText, 17, "01a"},
		{emptyText, 32, "02b"}, {emptyText, 255, "33a"}, {emptyText, 256, "00b"}, {emptyText, 240, "33b"},
		{emptyText, 65535, "33a"}, {emptyText, 65520, "33b"},
		// 4095 and 4094 are 0 and 14 more than a multiple of 15.
		{"a...", 65535, "01a"}, {"a...", 65519, "33a"}, {"..../..../..../...a", 65535, "00a"}, {"a...", 240, "01b"},
		{"abcd/efgh/ijkl/mno.", 0, "33b"}, {"abcd/efgh/ijkl/mno.", 1, "33a"}, {"abcd/efgh/ijkl/mno.", 65535, "33a"},
		{"abcd/e.gh/ijkl/mnop", 65520, "11b"}, {".bcd/efgh/ijkl/mno.", 31, "33a"}, {".bcd/efgh/ijkl/mno.", 47, "00a"},
		{"q.q./.q.q/q.q./.q.q", 65535, "32a"}, {"q.q./.q.q/q.q./.q.q", 33, "10a"},
	} {
		p := placement(c.placement)
		checkSeedTile(t, boardOf(c.board), c.seed, [2]int{p[0], p[1]}, p[2], true)
	}
}

func TestSeedTileOfAllSeedsAndOfSamples(t *testing.T) {
	boards := []impl.Board{{}, boardOf("a..."), boardOf("abab/baba/abab/bab."), boardOf("aab./..../.../c..."), boardOf("abcd/ef.h/ijkl/.no.")}
	for seed := range impl.MaxSeed + 1 {
		b := boards[seed%len(boards)]
		cell, tile := plainTileBy(b, seed)
		checkSeedTile(t, b, seed, cell, tile, true)
	}
	source := rand.New(rand.NewSource(113))
	for _, b := range sampleBoards() {
		isFull := len(tilesOf(b)) == 16
		for _, seed := range []int{0, impl.MaxSeed, 16, source.Intn(65536), source.Intn(4096) * 16} {
			if isFull {
				checkSeedTile(t, b, seed, [2]int{}, 0, false)
				continue
			}
			cell, tile := plainTileBy(b, seed)
			checkSeedTile(t, b, seed, cell, tile, true)
		}
		for _, wrong := range wrongSeeds() {
			checkSeedTile(t, b, wrong, [2]int{}, 0, false)
		}
	}
}

func checkPlay(t *testing.T, b impl.Board, order [4]int, seed int, n int, steps []impl.Step, last int) {
	t.Helper()
	want := impl.Replay{Start: b, Steps: steps}
	if r, then, ok := impl.PlaySeed(b, order, seed, n); !ok || !isSameReplay(r, want) || then != last {
		t.Errorf("PlaySeed(%v, %v, %d, %d) = %v, %d, %v, not %v, %d", b, order, seed, n, r, then, ok, want, last)
	}
}

func checkNoPlay(t *testing.T, b impl.Board, order [4]int, seed int, n int) {
	t.Helper()
	if r, then, ok := impl.PlaySeed(b, order, seed, n); ok || !isSameReplay(r, impl.Replay{}) || then != 0 {
		t.Errorf("PlaySeed(%v, %v, %d, %d) = %v, %d, %v", b, order, seed, n, r, then, ok)
	}
}

func TestPlaySeed(t *testing.T) {
	for _, c := range []struct {
		board   string
		order   string
		seed, n int
		steps   string
		last    int
	}{
		{"a...", "lurd", 1, 0, "", 1},
		{"a...", "lurd", 1, 1, "r00a", 39022},
		{"a...", "lurd", 1, 2, "r00a l21a", 61087},
		{"a...", "lurd", 1, 3, "r00a l21a l23a", 20196},
		{"a...", "dlur", 0, 1, "d00b", 13849},
		{"a...", "uldr", impl.MaxSeed, 1, "d00a", 54212},
		{"aa..", "udrl", 16, 1, "d01b", plainNextSeed(16)},
		{"aa..", "lurd", 16, 1, "l02b", plainNextSeed(16)},
		{"aa..", "ruld", impl.MaxSeed, 1, "r00a", 54212},
		// Boards that are over.
		{emptyText, "lurd", 7, 40, "", 7},
		{"abab/baba/abab/baba", "drul", 0, 40, "", 0},
		{"qqqq/qqqq/qqqq/qqqq", "lurd", impl.MaxSeed, 1, "", impl.MaxSeed},
		// Behind the one move there is one empty cell, and then no other move.
		{"cdef/ghij/klmn/opq.", "lurd", 0, 40, "r30b", 13849},
		{"cdef/ghij/klmn/opq.", "lurd", 1, 1, "r30a", 39022},
		{"cdef/ghij/klmn/opq.", "udlr", impl.MaxSeed, 40, "d03a", 54212},
		{"cdef/ghij/klmn/opee", "udrl", 0, 40, "r30b", 13849},
	} {
		order := [4]int{}
		for i := range 4 {
			order[i] = strings.IndexByte("lurd", c.order[i])
		}
		checkPlay(t, boardOf(c.board), order, c.seed, c.n, stepsOf(strings.Fields(c.steps)...), c.last)
	}
}

func TestPlaySeedOfSamples(t *testing.T) {
	source := rand.New(rand.NewSource(114))
	orders, _ := allOrders()
	if len(orders) != 24 {
		t.Fatalf("there are %d orders", len(orders))
	}
	ended, full := 0, 0
	for i, b := range slices.Concat(reachSamples(), crampedBoards()[:200], []impl.Board{{}, boardOf("a...")}) {
		order, seed, n := orders[i%24], source.Intn(impl.MaxSeed+1), impl.MaxReplay
		if i%3 == 0 {
			n = source.Intn(impl.MaxReplay)
		}
		steps, last := plainPlay(b, order, seed, n)
		checkPlay(t, b, order, seed, n, steps, last)
		if r, _, _ := impl.PlaySeed(b, order, seed, n); !impl.IsReplay(r) {
			t.Errorf("PlaySeed(%v, %v, %d, %d) = %v, which is not valid", b, order, seed, n, r)
		}
		if len(steps) < n {
			ended++
		}
		if len(steps) == impl.MaxReplay {
			full++
		}
	}
	if ended < 50 || full < 50 {
		t.Errorf("%d are over before, %d have all Steps", ended, full)
	}
}

func TestPlaySeedGoesOnWithTheSeedThen(t *testing.T) {
	for i, b := range reachSamples() {
		order := [4]int{down, left, up, right}
		whole, last, _ := impl.PlaySeed(b, order, i, 40)
		part, seed, _ := impl.PlaySeed(b, order, i, 15)
		middle, _ := impl.BoardAt(part, len(part.Steps))
		rest, end, ok := impl.PlaySeed(middle, order, seed, 25)
		if !ok || end != last || !slices.Equal(slices.Concat(part.Steps, rest.Steps), whole.Steps) {
			t.Errorf("%v, %d: %v, then %v, %v, not %v", b, i, part, rest, ok, whole)
		}
	}
}

func TestPlaySeedRefusesWrongArguments(t *testing.T) {
	good := [4]int{left, up, right, down}
	for _, b := range goodBoards() {
		for _, order := range wrongOrders() {
			checkNoPlay(t, b, order, 1, 0)
			checkNoPlay(t, b, order, 1, 40)
		}
		for _, seed := range wrongSeeds() {
			checkNoPlay(t, b, good, seed, 0)
			checkNoPlay(t, b, good, seed, 40)
		}
		for _, n := range wrongCounts() {
			checkNoPlay(t, b, good, 1, n)
		}
	}
	for _, b := range wrongBoards() {
		checkNoPlay(t, b, good, 1, 0)
		checkNoPlay(t, b, good, 0, 40)
		for _, seed := range []int{0, 1, impl.MaxSeed} {
			checkSeedTile(t, b, seed, [2]int{}, 0, false)
		}
	}
}

func checkCommonSteps(t *testing.T, r impl.Replay, q impl.Replay, want int, fine bool) {
	t.Helper()
	if n, ok := impl.CommonSteps(r, q); ok != fine || n != want {
		t.Errorf("CommonSteps(%v, %v) = %d, %v, not %d, %v", r, q, n, ok, want, fine)
	}
}

func checkParting(t *testing.T, r impl.Replay, q impl.Replay, want int, fine bool) {
	t.Helper()
	if k, ok := impl.FirstParting(r, q); ok != fine || k != want {
		t.Errorf("FirstParting(%v, %v) = %d, %v, not %d, %v", r, q, k, ok, want, fine)
	}
}

func TestCommonStepsAndFirstParting(t *testing.T) {
	long := []string{"r00a", "l03b", "l33a", "u20a"}
	for _, c := range []struct {
		r, q            impl.Replay
		common, parting int
	}{
		{impl.Replay{}, impl.Replay{}, 0, -1},
		{impl.Replay{}, replayOf("a..."), -1, 0},
		{replayOf("a..."), replayOf("b..."), -1, 0},
		{replayOf("a..."), replayOf("..../..../..../...a"), -1, 0},
		{replayOf("a..."), replayOf("...a", "l03a"), -1, 0},
		// Other Starts, then the same Boards.
		{replayOf("aa..", "l03a"), replayOf("..aa", "l03a"), -1, 0},
		{replayOf("a...", long...), replayOf("a...", long...), 4, -1},
		{replayOf("a...", long...), replayOf("a...", long[:2]...), 2, -1},
		{replayOf("a...", long...), replayOf("a..."), 0, -1},
		{replayOf("a...", "r00a"), replayOf("a...", "r00b"), 0, 1},
		{replayOf("a...", "r00a"), replayOf("a...", "r01a"), 0, 1},
		{replayOf("a...", "r00b"), replayOf("a...", "d00b"), 0, 1},
		{replayOf("a...", long...), replayOf("a...", "r00a", "l03b", "l33b"), 2, 3},
		{replayOf("a...", long...), replayOf("a...", "r00a", "l03b", "l33a", "u30a"), 3, 4},
		{replayOf("a...", long...), replayOf("a...", "r00a", "l02b", "l03a", "d20a"), 1, 2},
		// Two Steps make the same Board, and what comes then is the same, or not.
		{replayOf("a.a.", "l03b"), replayOf("a.a.", "r00b"), 0, -1},
		{replayOf("a.a.", "l03b", "l33a"), replayOf("a.a.", "r00b", "l33a"), 0, -1},
		{replayOf("a.a.", "l03b", "l33a"), replayOf("a.a.", "r00b", "l33b"), 0, 2},
		{replayOf("a.a.", "l03b", "r33a", "l01b"), replayOf("a.a.", "r00b", "r33a", "l02b"), 0, 3},
		{replayOf("a.a.", "l03b", "r33a", "l01b"), replayOf("a.a.", "l03b", "r33a", "l01b"), 3, -1},
		// They part, and come together.
		{replayOf("aa..", "l33a", "r00b"), replayOf("aa..", "l32a", "r00b"), 0, 1},
		{replayOf("aa..", "l33a", "l03a"), replayOf("aa..", "l32a", "l03a"), 0, 1},
	} {
		checkCommonSteps(t, c.r, c.q, max(c.common, 0), c.common >= 0)
		checkCommonSteps(t, c.q, c.r, max(c.common, 0), c.common >= 0)
		checkParting(t, c.r, c.q, max(c.parting, 0), c.parting >= 0)
		checkParting(t, c.q, c.r, max(c.parting, 0), c.parting >= 0)
	}
}

func TestStartsAreHeldAgainstEachOtherInAllCells(t *testing.T) {
	r := replayOf("abab/baba/abab/bab.", "r30a")
	for cell := range 16 {
		q := impl.Replay{Start: r.Start}
		q.Start.Rows[cell/4][cell%4] = 7
		checkCommonSteps(t, r, q, 0, false)
		checkCommonSteps(t, q, r, 0, false)
		checkParting(t, r, q, 0, true)
		checkParting(t, q, r, 0, true)
	}
}

// plainParting tells by the Boards, written one after the other, where two Replays part first.
func plainParting(r impl.Replay, q impl.Replay) (int, bool) {
	one, _, _ := plainReplayed(r)
	two, _, _ := plainReplayed(q)
	both := min(len(one), len(two))
	for k := range both {
		if !slices.Equal(one[:k+1], two[:k+1]) {
			return k, true
		}
	}
	return 0, false
}

// branchOf returns a Replay that has the first Steps of another one, and then, if there are any,
// some of its own.
func branchOf(source *rand.Rand, r impl.Replay, common int) impl.Replay {
	boards, _, _ := plainReplayed(r)
	steps, _ := randomSteps(source, boards[common], source.Intn(impl.MaxReplay-common+1))
	return impl.Replay{Start: r.Start, Steps: slices.Concat(r.Steps[:common], steps)}
}

// twinOf returns a Replay whose Step k is another one that makes the same Board; false if there is
// no such Step.
func twinOf(r impl.Replay) (impl.Replay, bool) {
	boards, _, _ := plainReplayed(r)
	for k, s := range r.Steps {
		for _, other := range plainNext(boards[k])[boards[k+1]] {
			if other != s {
				twin := slices.Clone(r.Steps)
				twin[k] = other
				return impl.Replay{Start: r.Start, Steps: twin}, true
			}
		}
	}
	return impl.Replay{}, false
}

// simpleReplays returns Replays in which different Steps often make the same Board.
func simpleReplays() []impl.Replay {
	replays := []impl.Replay{}
	for _, text := range []string{"a.a.", "..b.", "a...", "aa../..../..../aa..", "q..q"} {
		for _, s := range plainAllSteps(boardOf(text)) {
			replays = append(replays, impl.Replay{Start: boardOf(text), Steps: []impl.Step{s}})
		}
	}
	return replays
}

func TestCommonStepsAndFirstPartingOfBranches(t *testing.T) {
	source := rand.New(rand.NewSource(115))
	parted, prefixes, twins := 0, 0, 0
	pairs := [][2]impl.Replay{}
	for _, r := range slices.Concat(sampleReplays(), simpleReplays()) {
		for range 3 {
			pairs = append(pairs, [2]impl.Replay{r, branchOf(source, r, source.Intn(len(r.Steps)+1))})
		}
		if twin, ok := twinOf(r); ok {
			twins++
			pairs = append(pairs, [2]impl.Replay{r, twin}, [2]impl.Replay{r, branchOf(source, twin, len(twin.Steps))})
		}
	}
	for _, pair := range pairs {
		r, q := pair[0], pair[1]
		common := 0
		for common < len(r.Steps) && common < len(q.Steps) && slices.Equal(r.Steps[:common+1], q.Steps[:common+1]) {
			common++
		}
		checkCommonSteps(t, r, q, common, true)
		checkCommonSteps(t, q, r, common, true)
		parting, parts := plainParting(r, q)
		checkParting(t, r, q, parting, parts)
		checkParting(t, q, r, parting, parts)
		if parts {
			parted++
		} else if len(r.Steps) != len(q.Steps) {
			prefixes++
		}
	}
	if parted < 300 || prefixes < 100 || twins < 5 {
		t.Errorf("%d parted, %d prefixes, %d twins", parted, prefixes, twins)
	}
}

func checkStepText(t *testing.T, s impl.Step, want string, fine bool) {
	t.Helper()
	if text, ok := impl.StepText(s); ok != fine || text != want {
		t.Errorf("StepText(%v) = %q, %v, not %q, %v", s, text, ok, want, fine)
	}
}

func TestStepText(t *testing.T) {
	for _, c := range []struct {
		direction int
		cell      [2]int
		tile      int
		want      string
	}{
		{left, [2]int{3, 3}, 1, "l33a"}, {up, [2]int{0, 0}, 2, "u00b"}, {right, [2]int{1, 2}, 1, "r12a"}, {down, [2]int{2, 1}, 2, "d21b"},
		{left, [2]int{0, 3}, 2, "l03b"}, {down, [2]int{3, 0}, 1, "d30a"},
	} {
		checkStepText(t, impl.Step{Direction: c.direction, Cell: c.cell, Tile: c.tile}, c.want, true)
	}
	texts := map[string]bool{}
	for direction := -1; direction <= 4; direction++ {
		for cell := range 36 {
			for tile := -1; tile <= 4; tile++ {
				s := impl.Step{Direction: direction, Cell: [2]int{cell/6 - 1, cell%6 - 1}, Tile: tile}
				row, column := s.Cell[0], s.Cell[1]
				if direction < 0 || direction > 3 || row < 0 || row > 3 || column < 0 || column > 3 || tile < 1 || tile > 2 {
					checkStepText(t, s, "", false)
					continue
				}
				checkStepText(t, s, plainStepText(s), true)
				texts[plainStepText(s)] = true
			}
		}
	}
	if len(texts) != 128 {
		t.Errorf("there are %d texts", len(texts))
	}
	for _, s := range wrongSteps() {
		checkStepText(t, s, "", false)
	}
}

func checkParsed(t *testing.T, s string, want impl.Replay, fine bool) {
	t.Helper()
	if r, ok := impl.ParseReplay(s); ok != fine || !isSameReplay(r, want) {
		t.Errorf("ParseReplay(%q) = %v, %v, not %v, %v", s, r, ok, want, fine)
	}
}

// Promise 11, its second part.
func TestTextsTellReplays(t *testing.T) {
	longest := 0
	for _, r := range slices.Concat(sampleReplays(), fullReplays(), simpleReplays()) {
		text, ok := impl.ReplayText(r)
		if want := plainReplayText(r); !ok || text != want {
			t.Errorf("ReplayText(%v) = %q, %v, not %q", r, text, ok, want)
		}
		checkParsed(t, text, r, true)
		longest = max(longest, len(text))
	}
	if longest != 19+5*impl.MaxReplay {
		t.Errorf("the longest text has %d bytes", longest)
	}
	for _, text := range []string{
		emptyText, "abcd/efgh/ijkl/mnop", "q.../..../..../....", "a.../..../..../.... r00a", "a.../..../..../.... r00a l03b l33a u20a",
		"cdef/ghij/klmn/opq. r30b",
	} {
		parts := strings.Fields(text)
		checkParsed(t, text, replayOf(parts[0], parts[1:]...), true)
		if again, ok := impl.ReplayText(replayOf(parts[0], parts[1:]...)); !ok || again != text {
			t.Errorf("ReplayText of %q = %q, %v", text, again, ok)
		}
	}
}

func TestTextsOfNoReplayAreRefused(t *testing.T) {
	start := "a.../..../..../...."
	good := start + " r00a l03b"
	for _, text := range []string{
		"", " ", "a", "r00a", " r00a", "a...", "a.../....", start + " ", " " + start, start + "\n", start + " r00a ", start + "  r00a",
		start + "r00a", start + "\tr00a", start + "/r00a", start + "\nr00a", start + " r00a\n", start + " r00al03b", start + " r00a,l03b",
		// Another form of a Step.
		start + " r0a", start + " r00", start + " 00a", start + " ra00", start + " 00ra", start + " r000a", start + " r00aa", start + " rr00a",
		start + " R00a", start + " r00A", start + " x00a", start + " r0 0a", start + " r00a l", start + " r00a l03", start + " r00a l03bb",
		start + " >00a", start + " 200a", start + " r001", start + " r-00a", start + " r+0+0a", start + " r00a l03b l3", start + " right00a",
		// A number, a letter or a direction that there is not.
		start + " r04a", start + " r40a", start + " r00c", start + " r00.", start + " r00`", start + " r00q", start + " r0/a", start + " r/0a",
		start + " r09a", start + " r90a", start + " r0:a", start + " r:0a", start + " \x0000a", start + " r\x000a", start + " r00\x00",
		// Letters whose code is that of a good one and a multiple of 256, digits of other scripts, and no letters at all.
		start + " \u017200a", start + " r\u01300a", start + " r0\u0130a", start + " r00\u0161", start + " \u0272\u0230\u0230\u0261",
		start + " \uff5200a", start + " r\uff10\uff10a", start + " r\u06600a", start + " \xff00a", start + " r\xff0a", start + " r0\x80a",
		start + " r00\xe1", start + "\u00a0r00a", "\ufeff" + start, start + " r00\ufffd", start + " \U000100720a",
		// What is no step of its Board.
		start + " l33a", start + " u03b", start + " r03a", start + " r00a l00a", start + " r00a u33a", start + " r00a u33a l33a",
		emptyText + " l00a", "abab/baba/abab/baba l00a", "cdef/ghij/klmn/opq. r30b l33a", "cdef/ghij/klmn/opq. l33a",
		// A Start that is none.
		"r.../..../..../.... r00a", "A.../..../..../.... r00a", "0.../..../..../.... r00a", "a.../..../..../... r00a",
		"a.../..../..../..... r00a", "a.../..../..../..../ r00a", "a.../..../.... r00a", "a...|....|....|.... r00a",
		"\u00e1../..../..../.... r00a", "a... .... .... .... r00a", "a../..../..../.... r00a", start + " " + start,
		strings.Repeat(good+" ", 2), strings.Repeat(" ", 19), strings.Repeat("a", 4000), strings.Repeat(" ", 5000), strings.Repeat("/", 4001),
		start + strings.Repeat(" r00a", 796), start + strings.Repeat(" r00a", 797), start + strings.Repeat(" r00a", 100000),
	} {
		checkParsed(t, text, impl.Replay{}, false)
	}
	for _, s := range strangeTexts() {
		checkParsed(t, s, impl.Replay{}, false)
		checkParsed(t, start+" "+s, impl.Replay{}, false)
	}
	for _, r := range fullReplays()[:20] {
		checkParsed(t, plainReplayText(tooLong(r)), impl.Replay{}, false)
	}
}

// A byte that is another one, that is missing or that is there twice makes a text that is told as
// the bytes of a text and the steps of Boards say it.
func TestChangedTextsAreReadAsTheyStand(t *testing.T) {
	good, bad := 0, 0
	check := func(text string) {
		want, fine := plainParsed(text)
		checkParsed(t, text, want, fine)
		if fine {
			good++
		} else {
			bad++
		}
	}
	for i, r := range sampleReplays() {
		if i%8 > 0 {
			continue
		}
		text := plainReplayText(r)
		for place := range len(text) {
			check(text[:place])
			check(text[:place] + text[place+1:])
			check(text[:place] + text[place:place+1] + text[place:])
			for _, c := range []byte(" ./lurd0123abq\x00\xff") {
				if c != text[place] {
					check(text[:place] + string(rune(c)) + text[place+1:])
				}
			}
			if i%40 == 0 {
				for c := range 256 {
					check(text[:place] + string([]byte{byte(c)}) + text[place+1:])
				}
			}
		}
	}
	if good < 1000 || bad < 10000 {
		t.Errorf("%d texts are good, and %d are not", good, bad)
	}
}

// The guarantee of the chapter.
func TestReplaysKeepTheGuarantee(t *testing.T) {
	parted := 0
	for _, r := range slices.Concat(sampleReplays(), fullReplays(), simpleReplays()) {
		for k, s := range r.Steps {
			before, _ := impl.BoardAt(r, k)
			behind, ok := impl.BoardAt(r, k+1)
			if !ok || plainSum(behind) != plainSum(before)+worth(s.Tile) {
				t.Errorf("%v: the Step %d makes %v of %v", r, k, behind, before)
			}
		}
		last, _ := impl.BoardAt(r, len(r.Steps))
		for i, s := range plainAllSteps(last) {
			more, ok := impl.AddStep(r, s)
			if len(r.Steps) == impl.MaxReplay {
				break
			}
			if !ok || !impl.IsReplay(more) {
				t.Errorf("AddStep(%v, %v) = %v, %v", r, s, more, ok)
			}
			checkUndone(t, more, 1, r, true)
			other, _ := impl.AddStep(r, plainAllSteps(last)[0])
			one, _ := impl.BoardAt(more, len(more.Steps))
			two, _ := impl.BoardAt(other, len(other.Steps))
			if one != two {
				parted++
				common, _ := impl.CommonSteps(more, other)
				checkParting(t, more, other, common+1, true)
			}
			if i > 20 {
				break
			}
		}
	}
	if parted < 1000 {
		t.Errorf("only %d part", parted)
	}
}

// The forms of a Replay go with those of its Boards.
func TestReplaysGoWithForms(t *testing.T) {
	for i, r := range sampleReplays() {
		if i%10 > 0 {
			continue
		}
		boards, sum, _ := plainReplayed(r)
		for k := range 8 {
			form := impl.Replay{Start: plainForm(r.Start, k)}
			for _, s := range r.Steps {
				side, _ := impl.FormSide(k, s.Direction)
				form.Steps = append(form.Steps, impl.Step{Direction: side, Cell: plainPlace(s.Cell, k), Tile: s.Tile})
			}
			forms := []impl.Board{}
			for _, b := range boards {
				forms = append(forms, plainForm(b, k))
			}
			checkReplayed(t, form, forms, sum)
		}
	}
}

func TestWrongReplaysAreRefused(t *testing.T) {
	good := replayOf("a...", "r00a")
	for _, r := range wrongReplays() {
		if _, _, ok := plainReplayed(r); ok {
			t.Fatalf("the test is wrong for %v", r)
		}
		if impl.IsReplay(r) {
			t.Errorf("IsReplay(%v) is true", r)
		}
		for _, k := range []int{0, 1, len(r.Steps), len(r.Steps) - 1, -1, 41} {
			checkBoardAt(t, r, k, impl.Board{}, false)
			checkUndone(t, r, k, impl.Replay{}, false)
		}
		if score, ok := impl.ReplayScore(r); ok || score != 0 {
			t.Errorf("ReplayScore(%v) = %d, %v", r, score, ok)
		}
		for _, s := range stepsOf("l33a", "u30b", "r00a", "d00b", "r00b") {
			checkAdded(t, r, s, false)
		}
		checkHighest(t, r, 0, 0, false)
		if text, ok := impl.ReplayText(r); ok || text != "" {
			t.Errorf("ReplayText(%v) = %q, %v", r, text, ok)
		}
		for _, other := range []impl.Replay{r, good, {Start: r.Start}, {}} {
			checkCommonSteps(t, r, other, 0, false)
			checkCommonSteps(t, other, r, 0, false)
			checkParting(t, r, other, 0, false)
			checkParting(t, other, r, 0, false)
		}
	}
}

// replayResults tells what the functions of two Replays return.
func replayResults(r impl.Replay, q impl.Replay, i int) string {
	s := step("r00a")
	if len(q.Steps) > 0 {
		s = q.Steps[i%len(q.Steps)]
	}
	is := impl.IsReplay(r)
	b, one := impl.BoardAt(r, i%5)
	score, two := impl.ReplayScore(r)
	more, three := impl.AddStep(r, s)
	less, four := impl.UndoSteps(r, i%3)
	seed, five := impl.NextSeed(i)
	cell, tile, six := impl.SeedTile(q.Start, i)
	played, last, seven := impl.PlaySeed(q.Start, [4]int{right, left, down, up}, i, i%12)
	common, eight := impl.CommonSteps(r, q)
	parting, nine := impl.FirstParting(r, q)
	highest, first, ten := impl.HighestIn(q)
	word, eleven := impl.StepText(s)
	text, twelve := impl.ReplayText(r)
	parsed, thirteen := impl.ParseReplay(text)
	return fmt.Sprint(is, b, one, score, two, more, three, less, four, seed, five, cell, tile, six, played, last, seven, common, eight, parting, nine, highest, first, ten, word, eleven, text, twelve, parsed, thirteen)
}

// Promise 13.
func TestReplayFunctionsReturnTheSameForTheSame(t *testing.T) {
	replays := slices.Concat(sampleReplays(), fullReplays()[:10], wrongReplays())
	for i, r := range replays {
		// What is behind the end of the Steps is not to be changed either.
		room := slices.Concat(r.Steps, stepsOf("l00a", "u11b"))
		r.Steps = room[:len(r.Steps)]
		kept := slices.Clone(room)
		q := replays[i*31%len(replays)]
		keptToo := slices.Clone(q.Steps)
		first := replayResults(r, q, i) + replayResults(r, r, i)
		if again := replayResults(r, q, i) + replayResults(r, r, i); again != first {
			t.Errorf("%v, %v: %s, then %s", r, q, first, again)
		}
		if !slices.Equal(room, kept) || !slices.Equal(q.Steps, keptToo) {
			t.Errorf("%v and %v have been changed", r, q)
		}
	}
}

func TestStepsOfReplaysAreNewMemory(t *testing.T) {
	for _, r := range slices.Concat(sampleReplays(), fullReplays()[:10]) {
		want := slices.Clone(r.Steps)
		last, _ := impl.BoardAt(r, len(r.Steps))
		for k := range min(len(want), 3) + 1 {
			less, _ := impl.UndoSteps(r, k)
			spoil(less)
		}
		if steps := plainAllSteps(last); len(steps) > 0 {
			r.Steps = slices.Concat(want, want)[:len(want)]
			more, _ := impl.AddStep(r, steps[0])
			spoil(more)
		}
		text := plainReplayText(r)
		parsed, _ := impl.ParseReplay(text)
		spoil(parsed)
		checkParsed(t, text, r, true)
		order := [4]int{up, right, left, down}
		played, seed, _ := impl.PlaySeed(r.Start, order, 5, 12)
		steps := slices.Clone(played.Steps)
		spoil(played)
		checkPlay(t, r.Start, order, 5, 12, steps, seed)
		if !slices.Equal(r.Steps, want) {
			t.Errorf("the Steps of %v have been changed from %v", r, want)
		}
	}
}

// spoil overwrites all memory of the Steps of a Replay, also that behind their end.
func spoil(r impl.Replay) {
	all := r.Steps[:cap(r.Steps)]
	for i := range all {
		all[i] = impl.Step{Direction: -1, Cell: [2]int{-1, -1}, Tile: -1}
	}
}
