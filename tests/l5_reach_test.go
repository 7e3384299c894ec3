package tests

import (
	"fmt"
	"math"
	"math/rand"
	"slices"
	"sync"
	"testing"

	"loop.example/g01194/impl"
)

// road is a Board that slides lead to, and the first list of slides that do.
type road struct {
	board impl.Board
	list  []int
}

// plainRoads goes through all lists of at most n slides in their order, and returns the roads to
// all Boards, the first lists first.
func plainRoads(b impl.Board, n int) []road {
	roads := []road{{b, []int{}}}
	known := map[impl.Board]bool{b: true}
	all := slices.Clone(roads)
	for range n {
		longer := []road{}
		for _, before := range all {
			for direction := range 4 {
				slid, _, _ := plainSlide(before.board, direction)
				next := road{slid, append(slices.Clone(before.list), direction)}
				longer = append(longer, next)
				if !known[slid] {
					known[slid] = true
					roads = append(roads, next)
				}
			}
		}
		all = longer
	}
	return roads
}

// plainReached returns the Boards of the roads with at most n slides, in order.
func plainReached(roads []road, n int) []impl.Board {
	boards := []impl.Board{}
	for _, r := range roads {
		if len(r.list) <= n {
			boards = append(boards, r.board)
		}
	}
	slices.SortFunc(boards, func(a, b impl.Board) int { return slices.Compare(cellsOf(a), cellsOf(b)) })
	return boards
}

func plainHighest(roads []road) int {
	highest := 0
	for _, r := range roads {
		for _, tile := range tilesOf(r.board) {
			highest = max(highest, tile)
		}
	}
	return highest
}

// longTexts are of Boards from which some others are many slides away, or that come back late.
func longTexts() []string {
	return []string{
		"bb.b/...b/...a/.b..", ".aab/baab/.b.b/a.a.", "fbaf/bb.a/edde/bccd", "aabc/d.../e.../f...", "aabc/d.../e.../f..g",
		".ff./.eaf/a.ac/.d.e", "adab/ccb./aaed/.b..", "cabc/bbdd/aaca/ddbd", ".ece/adc./efda/ef.f", "bd../abc./fdff/ccab",
	}
}

// reachSamples returns some of sampleBoards, and those of longTexts.
func reachSamples() []impl.Board {
	boards := []impl.Board{}
	for _, text := range longTexts() {
		boards = append(boards, boardOf(text))
	}
	for i, b := range sampleBoards() {
		if i%7 == 0 {
			boards = append(boards, b)
		}
	}
	return boards
}

// sampleRoads holds the roads with at most MaxSteps slides from each of reachSamples.
var sampleRoads = sync.OnceValue(func() [][]road {
	all := [][]road{}
	for _, b := range reachSamples() {
		all = append(all, plainRoads(b, impl.MaxSteps))
	}
	return all
})

// plainSteps returns all steps with a direction, in order.
func plainSteps(b impl.Board, direction int) []impl.Step {
	steps := []impl.Step{}
	slid, _, _ := plainSlide(b, direction)
	for cell := range 16 {
		for tile := 1; tile <= 2 && slid != b && slid.Rows[cell/4][cell%4] == 0; tile++ {
			steps = append(steps, impl.Step{Direction: direction, Cell: [2]int{cell / 4, cell % 4}, Tile: tile})
		}
	}
	return steps
}

// plainStep returns the Board behind a step and the score of its slide.
func plainStep(b impl.Board, s impl.Step) (impl.Board, int) {
	slid, score, _ := plainSlide(b, s.Direction)
	slid.Rows[s.Cell[0]][s.Cell[1]] = s.Tile
	return slid, score
}

func plainAllSteps(b impl.Board) []impl.Step {
	return slices.Concat(plainSteps(b, left), plainSteps(b, up), plainSteps(b, right), plainSteps(b, down))
}

// plainNext returns all Boards behind steps, each with the steps that make it.
func plainNext(b impl.Board) map[impl.Board][]impl.Step {
	next := map[impl.Board][]impl.Step{}
	for _, s := range plainAllSteps(b) {
		behind, _ := plainStep(b, s)
		next[behind] = append(next[behind], s)
	}
	return next
}

// step reads a step from the letter of the direction, the row, the column and the tile.
func step(text string) impl.Step {
	direction := slices.Index([]byte("lurd"), text[0])
	return impl.Step{Direction: direction, Cell: [2]int{int(text[1] - '0'), int(text[2] - '0')}, Tile: int(text[3]-'a') + 1}
}

func stepsOf(texts ...string) []impl.Step {
	steps := []impl.Step{}
	for _, text := range texts {
		steps = append(steps, step(text))
	}
	return steps
}

// wrongSteps are none of any Board.
func wrongSteps() []impl.Step {
	steps := []impl.Step{}
	for _, direction := range wrongDirections() {
		steps = append(steps, impl.Step{Direction: direction, Cell: [2]int{3, 3}, Tile: 1})
	}
	for direction := range 4 {
		for _, cell := range wrongCells() {
			steps = append(steps, impl.Step{Direction: direction, Cell: cell, Tile: 2})
		}
		for _, tile := range append(wrongNumbers(), 0, 3, 4, impl.MaxTile) {
			for cell := range 16 {
				steps = append(steps, impl.Step{Direction: direction, Cell: [2]int{cell / 4, cell % 4}, Tile: tile})
			}
		}
	}
	return steps
}

func wrongSlideNumbers() []int {
	return []int{-1, 7, 8, -2, -6, 256, 1 << 32, 1<<32 + 1, math.MaxInt, math.MinInt}
}

func TestReachBySlides(t *testing.T) {
	for i, b := range reachSamples() {
		roads := sampleRoads()[i]
		for n := 0; n <= impl.MaxSteps; n++ {
			boards, ok := impl.ReachBySlides(b, n)
			if want := plainReached(roads, n); !ok || !slices.Equal(boards, want) {
				t.Errorf("ReachBySlides(%v, %d) has %d, %v, not %d", b, n, len(boards), ok, len(want))
			}
		}
	}
}

func TestReachBySlidesOfSmallBoards(t *testing.T) {
	cases := []struct {
		board string
		n     int
		want  []string
	}{
		{emptyText, 0, []string{emptyText}},
		{emptyText, 6, []string{emptyText}},
		{"qqqq/qqqq/qqqq/qqqq", 6, []string{"qqqq/qqqq/qqqq/qqqq"}},
		{"abab/baba/abab/baba", 6, []string{"abab/baba/abab/baba"}},
		{"a...", 0, []string{"a..."}},
		{"a...", 1, []string{"..../..../..../a...", "...a", "a..."}},
		{"a...", 2, []string{"..../..../..../...a", "..../..../..../a...", "...a", "a..."}},
		{"a...", 6, []string{"..../..../..../...a", "..../..../..../a...", "...a", "a..."}},
		{".q..", 1, []string{"..../..../..../.q..", "...q", ".q..", "q..."}},
		{"aa..", 1, []string{"..../..../..../aa..", "...b", "aa..", "b..."}},
	}
	for _, c := range cases {
		want := []impl.Board{}
		for _, text := range c.want {
			want = append(want, boardOf(text))
		}
		if boards, ok := impl.ReachBySlides(boardOf(c.board), c.n); !ok || !slices.Equal(boards, want) {
			t.Errorf("ReachBySlides %s, %d = %v, %v", c.board, c.n, boards, ok)
		}
	}
}

func checkFirst(t *testing.T, a impl.Board, b impl.Board, want []int) {
	t.Helper()
	if few, ok := impl.FewestSlides(a, b); !ok || few != len(want) {
		t.Errorf("FewestSlides(%v, %v) = %d, %v, not %d", a, b, few, ok, len(want))
	}
	if list, ok := impl.FirstSlides(a, b); !ok || !slices.Equal(list, want) {
		t.Errorf("FirstSlides(%v, %v) = %v, %v, not %v", a, b, list, ok, want)
	}
}

func checkUnreached(t *testing.T, a impl.Board, b impl.Board) {
	t.Helper()
	if few, ok := impl.FewestSlides(a, b); ok || few != 0 {
		t.Errorf("FewestSlides(%v, %v) = %d, %v", a, b, few, ok)
	}
	if list, ok := impl.FirstSlides(a, b); ok || len(list) != 0 {
		t.Errorf("FirstSlides(%v, %v) = %v, %v", a, b, list, ok)
	}
}

// Promise 5, its first part.
func TestFewestSlidesHaveFirstListsThatLeadThere(t *testing.T) {
	for i, a := range reachSamples() {
		roads := sampleRoads()[i]
		for k := 0; k < len(roads); k += 1 + len(roads)/20 {
			want := roads[k]
			checkFirst(t, a, want.board, want.list)
			list, _ := impl.FirstSlides(a, want.board)
			if end, _, ok := impl.DoSlides(a, list); !ok || end != want.board {
				t.Errorf("%v: %v leads to %v, %v, not to %v", a, list, end, ok, want.board)
			}
		}
	}
}

func TestFewestSlidesAndFirstSlides(t *testing.T) {
	cases := []struct {
		a, b string
		want []int
	}{
		{emptyText, emptyText, []int{}},
		{"qqqq/qqqq/qqqq/qqqq", "qqqq/qqqq/qqqq/qqqq", []int{}},
		{"a...", "a...", []int{}},
		{"a...", "...a", []int{right}},
		{"a...", "..../..../..../...a", []int{right, down}},
		{"..../.a../..../....", "a...", []int{left, up}},
		{"..../.a../..../....", "..../..../..../...a", []int{right, down}},
		{"..../.a../..../....", "..../a.../..../....", []int{left}},
		{"aaaa", "c...", []int{left, left}},
		{"aaaa", "...c", []int{left, right}},
		{"aabc", "d...", []int{left, left, left}},
		{"aabc", "...d", []int{left, left, right}},
		{"aabc/d.../e.../f...", "g...", []int{left, left, left, up, up, up}},
		{"aabc/d.../e.../f...", "..../..../..../g...", []int{left, left, left, up, up, down}},
	}
	for _, c := range cases {
		checkFirst(t, boardOf(c.a), boardOf(c.b), c.want)
	}
}

func TestBoardsThatNoSlidesReach(t *testing.T) {
	for _, c := range [][2]string{
		{"a...", emptyText}, {emptyText, "a..."}, {"a...", "b..."}, {"a...", ".a.."}, {"...a", "..../.a../..../...."},
		{"b...", "aa.."}, {"aa..", ".b.."}, {"ab..", "ba.."}, {"aaa.", "ca.."}, {"qq..", "q..."}, {"qqqq/qqqq/qqqq/qqqq", "pqqq/qqqq/qqqq/qqqq"},
		// So many slides are just too many.
		{"aabc/d.../e.../f..g", "h..."},
	} {
		checkUnreached(t, boardOf(c[0]), boardOf(c[1]))
	}
	seen := 0
	for _, text := range longTexts() {
		roads := plainRoads(boardOf(text), impl.MaxSteps+1)
		for i, far := range roads {
			if len(far.list) > impl.MaxSteps && i%5 == 0 {
				seen++
				checkUnreached(t, boardOf(text), far.board)
			}
		}
	}
	if seen < 50 {
		t.Errorf("only %d Boards are too far", seen)
	}
	for _, a := range reachSamples() {
		// No slide of another Board makes these.
		for _, b := range []impl.Board{boardOf("..../.aq./..../...."), boardOf("abab/baba/abab/babq"), fullOf(4)} {
			if a != b {
				checkUnreached(t, a, b)
			}
		}
	}
}

func TestDoSlides(t *testing.T) {
	cases := []struct {
		board, want string
		list        []int
		score       int
	}{
		{emptyText, emptyText, nil, 0},
		{emptyText, emptyText, []int{left, up, right, down}, 0},
		{".a..", ".a..", nil, 0},
		{".a..", ".a..", []int{}, 0},
		{".a..", "...a", []int{left, left, right}, 0},
		{"aaaa", "bb..", []int{left}, 8},
		{"aaaa", "..../..../..../...c", []int{left, right, down}, 16},
		{"aabc", "d...", []int{left, left, left}, 28},
		{"aabc", "d...", []int{left, left, left, left, up, up}, 28},
		{"aabc/d.../e.../f...", "g...", []int{left, left, left, up, up, up}, 28 + 32 + 64 + 128},
		{"pppp", "..qq", []int{left, right}, 2 * worth(17)},
		{"abab/baba/abab/baba", "abab/baba/abab/baba", []int{down, left}, 0},
	}
	for _, c := range cases {
		b, score, ok := impl.DoSlides(boardOf(c.board), c.list)
		if !ok || b != boardOf(c.want) || score != c.score {
			t.Errorf("DoSlides %s, %v = %v, %d, %v", c.board, c.list, b, score, ok)
		}
	}
}

// randomSlides returns a list of at most so many directions.
func randomSlides(source *rand.Rand, most int) []int {
	list := []int{}
	for range source.Intn(most + 1) {
		list = append(list, source.Intn(4))
	}
	return list
}

func TestDoSlidesOneAfterTheOther(t *testing.T) {
	source := rand.New(rand.NewSource(51))
	for i, b := range reachSamples() {
		list := randomSlides(source, 9)
		if i%50 == 0 {
			list = append(list, randomSlides(source, 5000)...)
		}
		kept := slices.Clone(list)
		want, sum := b, 0
		for _, direction := range list {
			slid, score, _ := plainSlide(want, direction)
			want = slid
			sum += score
		}
		end, score, ok := impl.DoSlides(b, list)
		if !ok || end != want || score != sum || !slices.Equal(list, kept) {
			t.Errorf("DoSlides(%v, %v) = %v, %d, %v, not %v, %d", b, list, end, score, ok, want, sum)
		}
		if plainSum(end) != plainSum(b) {
			t.Errorf("DoSlides(%v, %v) changes the sum", b, list)
		}
	}
}

// plainCycle makes a list until some Board comes back, and returns which one that is, and how
// much later.
func plainCycle(b impl.Board, list []int) (int, int) {
	boards := []impl.Board{b}
	for {
		for _, direction := range list {
			b, _, _ = plainSlide(b, direction)
		}
		if ahead := slices.Index(boards, b); ahead >= 0 {
			return ahead, len(boards) - ahead
		}
		boards = append(boards, b)
	}
}

func TestSlideCycle(t *testing.T) {
	cases := []struct {
		board       string
		list        []int
		ahead, long int
	}{
		{emptyText, []int{left}, 0, 1},
		{emptyText, []int{left, up, right, down}, 0, 1},
		{"abab/baba/abab/baba", []int{up, down}, 0, 1},
		{"qqqq/qqqq/qqqq/qqqq", []int{up}, 0, 1},
		{"a...", []int{left}, 0, 1},
		{"a...", []int{right}, 1, 1},
		{"a...", []int{right, left}, 0, 1},
		{"a...", []int{left, right}, 1, 1},
		{".a..", []int{left, right}, 1, 1},
		{"a...", []int{right, down, left, up}, 0, 1},
		{"a...", []int{right, right, down, down}, 1, 1},
		{"aaaa", []int{left}, 2, 1},
		{"aaaa", []int{left, right}, 1, 1},
		{"aabc", []int{left}, 3, 1},
		{"aabc", []int{left, left}, 2, 1},
		{"aabc", []int{left, left, left, left}, 1, 1},
		{"aabc/d.../e.../f...", []int{left, up}, 5, 1},
		{"cabc/bbdd/aaca/ddbd", []int{left, down, right, up}, 10, 1},
		{".ece/adc./efda/ef.f", []int{down, left, up, right}, 2, 2},
		{"bd../abc./fdff/ccab", []int{left, down, right, up}, 2, 4},
		{".ff./.eaf/a.ac/.d.e", []int{right, down, left, up}, 1, 15},
		{"adab/ccb./aaed/.b..", []int{right, down, left, up}, 9, 3},
	}
	for _, c := range cases {
		ahead, long, ok := impl.SlideCycle(boardOf(c.board), c.list)
		if !ok || ahead != c.ahead || long != c.long {
			t.Errorf("SlideCycle %s, %v = %d, %d, %v, not %d, %d", c.board, c.list, ahead, long, ok, c.ahead, c.long)
		}
	}
}

func TestSlideCycleOfSamples(t *testing.T) {
	source := rand.New(rand.NewSource(52))
	lists := [][]int{{left}, {up}, {right}, {down}, {left, up, right, down}, {down, right, up, left}}
	for range 20 {
		if list := randomSlides(source, 4); len(list) > 0 {
			lists = append(lists, list)
		}
	}
	for _, b := range reachSamples() {
		for _, list := range lists {
			ahead, long := plainCycle(b, list)
			if one, two, ok := impl.SlideCycle(b, list); !ok || one != ahead || two != long {
				t.Errorf("SlideCycle(%v, %v) = %d, %d, %v, not %d, %d", b, list, one, two, ok, ahead, long)
			}
			checkCycleMergesNothing(t, b, list)
		}
	}
}

// checkCycleMergesNothing fails the test unless the Board comes back as it is told, and no slide
// merges anything in between.
func checkCycleMergesNothing(t *testing.T, b impl.Board, list []int) {
	t.Helper()
	ahead, long, _ := impl.SlideCycle(b, list)
	begin, _, _ := impl.DoSlides(b, slices.Repeat(list, ahead))
	end, score, ok := impl.DoSlides(begin, slices.Repeat(list, long))
	if !ok || end != begin || score != 0 {
		t.Errorf("%v, %v: behind %d times %v, and behind %d more %v, %d, %v", b, list, ahead, begin, long, end, score, ok)
	}
}

func TestHighestBySlides(t *testing.T) {
	for text, want := range map[string]int{
		emptyText: 0, "a...": 1, "q...": 17, "aa..": 2, "a..a/..../..../a..a": 3, "aabc": 4, "abcd": 4, "aaaa/aaaa/aaaa/aaaa": 5,
		"qqqq/qqqq/qqqq/qqqq": 17, "pp..": 17, "pppp": 17, "oopp": 17, "abab/baba/abab/baba": 2,
		// Just so many slides are needed for these, and one more for a higher tile of the second one.
		"aabc/d.../e.../f...": 7, "aabc/d.../e.../f..g": 7,
	} {
		if highest, ok := impl.HighestBySlides(boardOf(text)); !ok || highest != want {
			t.Errorf("HighestBySlides %s = %d, %v, not %d", text, highest, ok, want)
		}
	}
	if highest := plainHighest(plainRoads(boardOf("aabc/d.../e.../f..g"), impl.MaxSteps+1)); highest != 8 {
		t.Errorf("one more slide makes %d", highest)
	}
	for i, b := range reachSamples() {
		want := plainHighest(sampleRoads()[i])
		if highest, ok := impl.HighestBySlides(b); !ok || highest != want {
			t.Errorf("HighestBySlides(%v) = %d, %v, not %d", b, highest, ok, want)
		}
	}
}

func TestStepsOf(t *testing.T) {
	cases := []struct {
		board     string
		direction int
		want      []impl.Step
	}{
		{emptyText, left, nil},
		{"a...", left, nil},
		{"a...", up, nil},
		{"abab/baba/abab/baba", right, nil},
		{"qqqq/qqqq/qqqq/qqqq", down, nil},
		{"abcd/efgh/ijkl/mno.", left, nil},
		{"abcd/efgh/ijkl/mno.", up, nil},
		{"abcd/efgh/ijkl/mno.", right, stepsOf("r30a", "r30b")},
		{"abcd/efgh/ijkl/mno.", down, stepsOf("d03a", "d03b")},
		{"abcd/efgh/ijkl/mnoo", left, stepsOf("l33a", "l33b")},
		{"pppp/abcd/efgh/ijkl", left, stepsOf("l02a", "l02b", "l03a", "l03b")},
		{"pppp/abcd/efgh/ijkl", right, stepsOf("r00a", "r00b", "r01a", "r01b")},
		{".bcd/efg./ijkl/mnop", up, stepsOf("u30a", "u30b", "u33a", "u33b")},
	}
	for _, c := range cases {
		if steps, ok := impl.StepsOf(boardOf(c.board), c.direction); !ok || !slices.Equal(steps, c.want) {
			t.Errorf("StepsOf %s, %d = %v, %v, not %v", c.board, c.direction, steps, ok, c.want)
		}
	}
	for _, b := range sampleBoards() {
		for direction := range 4 {
			want := plainSteps(b, direction)
			if steps, ok := impl.StepsOf(b, direction); !ok || !slices.Equal(steps, want) {
				t.Errorf("StepsOf(%v, %d) = %v, %v, not %v", b, direction, steps, ok, want)
			}
		}
	}
}

// checkStep fails the test unless DoStep makes a step as it should, or refuses what is none.
func checkStep(t *testing.T, b impl.Board, s impl.Step, fine bool) {
	t.Helper()
	want, sum := impl.Board{}, 0
	if fine {
		want, sum = plainStep(b, s)
	}
	if next, score, ok := impl.DoStep(b, s); ok != fine || next != want || score != sum {
		t.Errorf("DoStep(%v, %v) = %v, %d, %v, not %v, %d, %v", b, s, next, score, ok, want, sum, fine)
	}
}

func TestDoStep(t *testing.T) {
	cases := []struct {
		board, step, want string
		score             int
	}{
		{"a...", "r00a", "a..a", 0},
		{"a...", "d33b", "..../..../..../a..b", 0},
		{"aabb", "l03b", "bc.b", 12},
		{"aabb", "r01a", ".abc", 12},
		{"pp../..../..../q...", "u33a", "pp../q.../..../...a", 0},
		{"pppp/abcd/efgh/ijkl", "l02a", "qqa./abcd/efgh/ijkl", 2 * worth(17)},
		{"abcd/efgh/ijkl/mno.", "r30b", "abcd/efgh/ijkl/bmno", 0},
	}
	for _, c := range cases {
		next, score, ok := impl.DoStep(boardOf(c.board), step(c.step))
		if !ok || next != boardOf(c.want) || score != c.score {
			t.Errorf("DoStep %s, %s = %v, %d, %v", c.board, c.step, next, score, ok)
		}
	}
	for _, c := range [][2]string{
		// The slide is no move; the Board is over; the cell has a tile behind the slide.
		{"a...", "l11a"}, {"a...", "u03b"}, {"abcd/efgh/ijkl/mno.", "l33a"}, {emptyText, "l00a"}, {emptyText, "r33b"},
		{"abab/baba/abab/baba", "l00a"}, {"qqqq/qqqq/qqqq/qqqq", "d33a"}, {"a...", "r03a"}, {"aabb", "l00a"}, {"aabb", "l01b"}, {"abcd/efgh/ijkl/mno.", "r33a"},
	} {
		checkStep(t, boardOf(c[0]), step(c[1]), false)
	}
}

func TestDoStepMakesJustTheSteps(t *testing.T) {
	for _, b := range reachSamples() {
		all := map[impl.Step]bool{}
		for _, s := range plainAllSteps(b) {
			all[s] = true
		}
		for direction := -1; direction <= 4; direction++ {
			for cell := range 36 {
				for tile := -1; tile <= 4; tile++ {
					s := impl.Step{Direction: direction, Cell: [2]int{cell/6 - 1, cell%6 - 1}, Tile: tile}
					checkStep(t, b, s, all[s])
				}
			}
		}
	}
}

// Promise 5, its second part.
func TestStepsAdd2Or4(t *testing.T) {
	for _, b := range reachSamples() {
		for direction := range 4 {
			steps, _ := impl.StepsOf(b, direction)
			_, slid, _ := impl.SlideBoard(b, direction)
			for _, s := range steps {
				next, score, ok := impl.DoStep(b, s)
				more := plainSum(next) - plainSum(b)
				if !ok || score != slid || more != 2*s.Tile || (more != 2 && more != 4) {
					t.Errorf("DoStep(%v, %v) = %v, %d, %v, which adds %d", b, s, next, score, ok, more)
				}
			}
		}
	}
}

func checkBetween(t *testing.T, a impl.Board, b impl.Board, want []impl.Step) {
	t.Helper()
	if steps, ok := impl.StepBetween(a, b); !ok || !slices.Equal(steps, want) {
		t.Errorf("StepBetween(%v, %v) = %v, %v, not %v", a, b, steps, ok, want)
	}
}

func TestStepBetween(t *testing.T) {
	cases := []struct {
		a, b string
		want []impl.Step
	}{
		{"a...", "...a", nil},
		{"a...", "a...", nil},
		{"a...", "a..a", stepsOf("r00a")},
		{"a...", "b..a", stepsOf("r00b")},
		{"a...", "c..a", nil},
		{"a...", "a.../..../..../a...", stepsOf("d00a")},
		{"a...", "..../..../..../a..b", stepsOf("d33b")},
		{"...a", "a..a", stepsOf("l03a")},
		{"a...", emptyText, nil},
		{emptyText, "a...", nil},
		{emptyText, emptyText, nil},
		{"a.a.", "b..b", stepsOf("l03b", "r00b")},
		{"aa../aa../..../....", "bb../..../a.../....", stepsOf("u20a")},
		{".a../a.../..../....", "aa../..../..../...b", stepsOf("u33b")},
		{"a..a/..../..../a..a", "b.../b.../..../....", nil},
		{"..a./..../.a../....", "..../..../..../.aa.", nil},
		{"..../.a../..../....", "..../...a/..b./....", stepsOf("r22b")},
		{"abab/baba/abab/baba", "abab/baba/abab/baba", nil},
	}
	for _, c := range cases {
		checkBetween(t, boardOf(c.a), boardOf(c.b), c.want)
	}
}

func TestStepBetweenAndCountNextOfSamples(t *testing.T) {
	several := 0
	for _, b := range reachSamples() {
		next := plainNext(b)
		if many, ok := impl.CountNext(b); !ok || many != len(next) {
			t.Errorf("CountNext(%v) = %d, %v, not %d", b, many, ok, len(next))
		}
		for _, other := range []impl.Board{b, {}, fullOf(1), fullOf(impl.MaxTile)} {
			checkBetween(t, b, other, next[other])
		}
		for i, s := range plainAllSteps(b) {
			behind, _ := plainStep(b, s)
			if len(next[behind]) > 1 || i%9 == 0 {
				checkBetween(t, b, behind, next[behind])
			}
			several = max(several, len(next[behind]))
		}
	}
	if several < 2 {
		t.Error("no Board is behind several steps")
	}
}

func TestCountNext(t *testing.T) {
	for text, want := range map[string]int{
		emptyText: 0, "abab/baba/abab/baba": 0, "qqqq/qqqq/qqqq/qqqq": 0, "abcd/efgh/ijkl/mno.": 4, "abcd/efgh/ijkl/mnoo": 4,
		"abcd/efgh/ijkl/oomn": 4, "aaaa/bcde/fghi/jklm": 8,
		// Of 60 steps, two lead to the Board with a 1 in both cells; of 88 steps, two to that with a 2 in both.
		"a...": 59, "a.a.": 87,
	} {
		if many, ok := impl.CountNext(boardOf(text)); !ok || many != want {
			t.Errorf("CountNext %s = %d, %v, not %d", text, many, ok, want)
		}
	}
}

// played is what PlaySteps returns of steps that have been made.
type played struct {
	board impl.Board
	score int
	steps int
}

func checkPlayed(t *testing.T, b impl.Board, list []impl.Step, want played) {
	t.Helper()
	kept := slices.Clone(list)
	end, score, steps, ok := impl.PlaySteps(b, list)
	if got := (played{end, score, steps}); !ok || got != want {
		t.Errorf("PlaySteps(%v, %v) = %v, %v, not %v", b, list, got, ok, want)
	}
	if !slices.Equal(list, kept) {
		t.Errorf("PlaySteps(%v, ..) changes its list", b)
	}
}

func TestPlaySteps(t *testing.T) {
	cases := []struct {
		board, want string
		list        []impl.Step
		score, made int
	}{
		{emptyText, emptyText, nil, 0, 0},
		{"a...", "a...", []impl.Step{}, 0, 0},
		{emptyText, emptyText, stepsOf("l00a"), 0, 0},
		{"abab/baba/abab/baba", "abab/baba/abab/baba", stepsOf("l00a", "r00a"), 0, 0},
		{"a...", "a..a", stepsOf("r00a"), 0, 1},
		{"a...", "b..a", stepsOf("r00a", "l03a"), 4, 2},
		{"a...", "ba.b", stepsOf("r00a", "l03a", "l03b"), 4, 3},
		// The second one is no move, or its cell has a tile; those behind it would be steps.
		{"a...", "a..a", stepsOf("r00a", "u33a", "l33a", "r00a"), 0, 1},
		{"a...", "...a/a.../..../....", stepsOf("r10a", "r03b", "l33a", "u30a"), 0, 1},
		{"a...", "a..a", stepsOf("r00a", "l00a", "l33a"), 0, 1},
		{"a...", "a...", stepsOf("l33a", "r00a"), 0, 0},
	}
	for _, c := range cases {
		checkPlayed(t, boardOf(c.board), c.list, played{boardOf(c.want), c.score, c.made})
	}
	for _, wrong := range wrongSteps() {
		list := append(stepsOf("r00a"), wrong, step("l03a"))
		checkPlayed(t, boardOf("a..."), list, played{boardOf("a..a"), 0, 1})
		checkPlayed(t, boardOf("a..."), list[1:], played{boardOf("a..."), 0, 0})
	}
}

// randomSteps returns steps that can be made one after the other, at most so many, and what they
// make together.
func randomSteps(source *rand.Rand, b impl.Board, most int) ([]impl.Step, played) {
	list, end := []impl.Step{}, played{board: b}
	for len(list) < most && len(plainMoves(end.board)) > 0 {
		steps := plainAllSteps(end.board)
		s := steps[source.Intn(len(steps))]
		next, score := plainStep(end.board, s)
		list = append(list, s)
		end = played{next, end.score + score, end.steps + 1}
	}
	return list, end
}

func TestPlayStepsOfSamples(t *testing.T) {
	source := rand.New(rand.NewSource(53))
	longest := 0
	for i, b := range reachSamples() {
		most := 12
		if i%10 == 0 {
			most = 2000
		}
		list, end := randomSteps(source, b, most)
		longest = max(longest, len(list))
		checkPlayed(t, b, list, end)
		if plainSum(end.board)-plainSum(b) < 2*len(list) || plainSum(end.board)-plainSum(b) > 4*len(list) {
			t.Errorf("%v adds too much or too little to %v: %v", list, b, end)
		}
		wrong := wrongSteps()[i%len(wrongSteps())]
		checkPlayed(t, b, append(slices.Clone(list), wrong, step("l33a"), step("r00a"), step("u30b")), end)
	}
	if longest < 60 {
		t.Errorf("the longest list has %d steps", longest)
	}
}

// plainTrapped asks for the moves behind each step.
func plainTrapped(b impl.Board) bool {
	for next := range plainNext(b) {
		if len(plainMoves(next)) > 0 {
			return false
		}
	}
	return len(plainMoves(b)) > 0
}

func TestIsTrapped(t *testing.T) {
	for text, want := range map[string]bool{
		// Over already.
		emptyText: false, "abab/baba/abab/baba": false, "qqqq/qqqq/qqqq/qqqq": false, "abcd/efgh/ijkl/mnop": false, "cdef/ghij/klmn/opqq": false,
		// Behind some step there is more than one empty cell, or a merger.
		"a...": false, "q...": false, "aaaa/aaaa/aaaa/aaaa": false, "cdef/ghij/kkll/opqd": false, "cdef/ghij/kkmn/opll": false,
		"cdef/ghij/klmn/opq.": true, "cdef/ghij/klmn/.opq": true, "cdef/gh.i/klmn/opqd": true,
		// Only a new tile 1 or only a new tile 2 leads on, behind only one move.
		"cdef/ghij/almn/opq.": false, "cdaf/ghij/klmn/opq.": false, "cdef/ghij/blmn/opq.": false, "cdbf/ghij/klmn/opq.": false,
		// A merger leaves one empty cell; some of the Boards have a 1 or a 2 beside it, and in the last one other tiles meet.
		"cdef/ghij/klmn/opee": true, "cdef/ghij/klma/opee": false, "cdef/ghij/blmn/opee": false, "cdef/ghij/kmnn/okqd": false,
		"qqqq/qqqq/qqqq/qqq.": true, "qqqq/qqqq/qqqq/qaq.": true, "qqqq/qqqq/aqqq/qqq.": false, "qqqq/qqqq/qqqq/qqpp": true, "qqqq/qqqq/qqqa/qqpp": false,
	} {
		if plainTrapped(boardOf(text)) != want {
			t.Errorf("the test is wrong for %s", text)
		}
		if is, ok := impl.IsTrapped(boardOf(text)); !ok || is != want {
			t.Errorf("IsTrapped %s = %v, %v", text, is, ok)
		}
	}
}

// crampedBoards returns Boards with one empty cell, or with two equal neighbors, most of whose
// other tiles are different.
func crampedBoards() []impl.Board {
	boards := []impl.Board{}
	source := rand.New(rand.NewSource(54))
	for i := range 600 {
		b := impl.Board{}
		for cell, tile := range source.Perm(16) {
			b.Rows[cell/4][cell%4] = tile + 2
		}
		r, c := source.Intn(4), source.Intn(3)
		b.Rows[r][c] = 0
		if i%2 == 0 {
			b.Rows[r][c] = b.Rows[r][c+1]
		}
		if i%3 == 0 {
			b.Rows[source.Intn(4)][source.Intn(4)] = 1
		}
		boards = append(boards, b, columnsOf(b))
	}
	return boards
}

func TestIsTrappedOfSamples(t *testing.T) {
	answers := map[bool]int{}
	for _, b := range append(crampedBoards(), reachSamples()...) {
		want := plainTrapped(b)
		answers[want]++
		if is, ok := impl.IsTrapped(b); !ok || is != want {
			t.Errorf("IsTrapped(%v) = %v, %v", b, is, ok)
		}
	}
	if answers[true] < 100 || answers[false] < 100 {
		t.Error("one answer is rare:", answers)
	}
}

// The guarantee of the chapter, as far as the tests above do not have it.
func TestReachingKeepsTheGuarantee(t *testing.T) {
	for _, b := range reachSamples() {
		fewer := []impl.Board{}
		for n := 0; n <= impl.MaxSteps; n++ {
			boards, _ := impl.ReachBySlides(b, n)
			among := map[impl.Board]bool{}
			for _, reached := range boards {
				among[reached] = true
				if plainSum(reached) != plainSum(b) {
					t.Errorf("%v reaches %v, which has another sum", b, reached)
				}
			}
			for _, reached := range fewer {
				if !among[reached] {
					t.Errorf("%v reaches %v not with %d slides, but with fewer", b, reached, n)
				}
			}
			fewer = boards
		}
	}
}

// reachResults tells what the functions of one Board return, and whether they are zero values
// and false.
func reachResults(b impl.Board) (string, bool) {
	boards, one := impl.ReachBySlides(b, 2)
	few, two := impl.FewestSlides(b, b)
	first, three := impl.FirstSlides(b, b)
	end, score, four := impl.DoSlides(b, []int{down, left})
	still, none, five := impl.DoSlides(b, nil)
	ahead, long, six := impl.SlideCycle(b, []int{up, right})
	highest, seven := impl.HighestBySlides(b)
	steps, eight := impl.StepsOf(b, right)
	next, sum, nine := impl.DoStep(b, step("r00a"))
	between, ten := impl.StepBetween(b, b)
	many, eleven := impl.CountNext(b)
	last, all, made, twelve := impl.PlaySteps(b, stepsOf("l33a", "r00a"))
	trapped, thirteen := impl.IsTrapped(b)
	told := fmt.Sprint(boards, one, few, two, first, three, end, score, four, still, none, five, ahead, long, six, highest, seven, steps, eight, next, sum, nine, between, ten, many, eleven, last, all, made, twelve, trapped, thirteen)
	zero := few == 0 && score == 0 && none == 0 && ahead == 0 && long == 0 && highest == 0 && sum == 0 && many == 0 && all == 0 && made == 0 && !trapped
	empty := len(boards) == 0 && len(first) == 0 && len(steps) == 0 && len(between) == 0 && end == impl.Board{} && still == impl.Board{} && next == impl.Board{} && last == impl.Board{}
	fails := !one && !two && !three && !four && !five && !six && !seven && !eight && !nine && !ten && !eleven && !twelve && !thirteen
	return told, zero && empty && fails
}

func TestWrongBoardsAreNotReached(t *testing.T) {
	for _, b := range wrongBoards() {
		if told, none := reachResults(b); !none {
			t.Errorf("%v: %s", b, told)
		}
		if end, sum, made, ok := impl.PlaySteps(b, nil); ok || end != (impl.Board{}) || sum != 0 || made != 0 {
			t.Errorf("PlaySteps(%v) without steps = %v, %d, %d, %v", b, end, sum, made, ok)
		}
		for _, good := range []impl.Board{{}, fullOf(1), boardOf("a...")} {
			checkUnreached(t, b, good)
			checkUnreached(t, good, b)
			one, ok := impl.StepBetween(b, good)
			two, fine := impl.StepBetween(good, b)
			if ok || fine || len(one) != 0 || len(two) != 0 {
				t.Errorf("StepBetween of %v and %v: %v, %v, %v, %v", b, good, one, ok, two, fine)
			}
		}
		for _, s := range stepsOf("l33a", "u33b", "r00a", "d00b") {
			checkStep(t, b, s, false)
		}
	}
}

func goodBoards() []impl.Board {
	return []impl.Board{{}, fullOf(1), fullOf(impl.MaxTile), boardOf("a..."), boardOf("aabc/d.../e.../f...")}
}

func TestWrongNumbersOfSlidesAreRefused(t *testing.T) {
	for _, n := range wrongSlideNumbers() {
		for _, b := range goodBoards() {
			if boards, ok := impl.ReachBySlides(b, n); ok || len(boards) != 0 {
				t.Errorf("ReachBySlides(%v, %d) has %d, %v", b, n, len(boards), ok)
			}
		}
	}
}

func checkNoCycle(t *testing.T, b impl.Board, list []int) {
	t.Helper()
	if ahead, long, ok := impl.SlideCycle(b, list); ok || ahead != 0 || long != 0 {
		t.Errorf("SlideCycle(%v, %v) = %d, %d, %v", b, list, ahead, long, ok)
	}
}

func TestWrongDirectionsOfSlidesAreRefused(t *testing.T) {
	for _, direction := range wrongDirections() {
		for _, b := range goodBoards() {
			if steps, ok := impl.StepsOf(b, direction); ok || len(steps) != 0 {
				t.Errorf("StepsOf(%v, %d) = %v, %v", b, direction, steps, ok)
			}
			for place := range 4 {
				list := []int{left, up, right, down}
				list[place] = direction
				for _, wrong := range [][]int{list, list[:place+1], list[place:]} {
					if end, score, ok := impl.DoSlides(b, wrong); ok || end != (impl.Board{}) || score != 0 {
						t.Errorf("DoSlides(%v, %v) = %v, %d, %v", b, wrong, end, score, ok)
					}
					checkNoCycle(t, b, wrong)
				}
			}
		}
	}
}

func TestWrongListsForSlideCycleAreRefused(t *testing.T) {
	for _, b := range goodBoards() {
		for _, many := range []int{0, 5, 6, 8, 256, 100000} {
			checkNoCycle(t, b, make([]int, many))
		}
		checkNoCycle(t, b, nil)
		checkNoCycle(t, b, []int{left, up, right, down, left})
		checkNoCycle(t, b, []int{left, up, right, down, 4})
	}
}

func TestWrongStepsAreRefused(t *testing.T) {
	for _, s := range wrongSteps() {
		for _, b := range goodBoards() {
			checkStep(t, b, s, false)
		}
	}
}

// Promise 13.
func TestReachFunctionsReturnTheSameForTheSame(t *testing.T) {
	for _, b := range append(reachSamples(), wrongBoards()...) {
		kept := b
		first, _ := reachResults(b)
		if again, _ := reachResults(b); again != first || b != kept {
			t.Errorf("%v: %s, then %s", b, first, again)
		}
	}
}

func TestListsOfSlidesStayAsTheyAre(t *testing.T) {
	list := []int{down, up, left, right, 77}
	for _, b := range goodBoards() {
		impl.DoSlides(b, list[:4])
		impl.SlideCycle(b, list[:4])
		impl.DoSlides(b, list)
		impl.SlideCycle(b, list)
		if !slices.Equal(list, []int{down, up, left, right, 77}) {
			t.Fatal("the list is", list)
		}
	}
}

func TestListsOfReachingAreNewMemory(t *testing.T) {
	a, b := boardOf("a.a."), boardOf("b..b")
	boards, _ := impl.ReachBySlides(a, 2)
	slides, _ := impl.FirstSlides(a, boardOf("..../..../..../...b"))
	steps, _ := impl.StepsOf(a, right)
	between, _ := impl.StepBetween(a, b)
	told := fmt.Sprint(boards, slides, steps, between)
	for i := range boards {
		boards[i] = fullOf(9)
	}
	for i := range slides {
		slides[i] = 99
	}
	for _, list := range [][]impl.Step{steps, between} {
		for i := range list {
			list[i] = step("d22b")
		}
		_ = append(list[:1], step("u11a"), step("u12a"))
	}
	_ = append(boards[:1], fullOf(8), fullOf(7))
	_ = append(slides[:1], 88)
	boards, _ = impl.ReachBySlides(a, 2)
	slides, _ = impl.FirstSlides(a, boardOf("..../..../..../...b"))
	steps, _ = impl.StepsOf(a, right)
	between, _ = impl.StepBetween(a, b)
	if len(slides) != 2 || len(between) != 2 || fmt.Sprint(boards, slides, steps, between) != told {
		t.Errorf("%s, and behind the changes %v, %v, %v, %v", told, boards, slides, steps, between)
	}
}
