package tests

import (
	"fmt"
	"math"
	"math/big"
	"math/rand"
	"regexp"
	"slices"
	"strconv"
	"strings"
	"sync"
	"testing"

	"loop.example/g01194/impl"
)

func deskOf(text string, points int, count int) impl.Desk {
	return impl.Desk{Board: boardOf(text), Points: points, Count: count}
}

// deed makes a Deed of a kind; of A, B and C, those that are not given are 0.
func deed(kind int, given ...int) impl.Deed {
	given = append(given, 0, 0, 0)
	return impl.Deed{Kind: kind, A: given[0], B: given[1], C: given[2]}
}

func TestTheNumbersOfTheDesk(t *testing.T) {
	got := []int{impl.MaxDeeds, impl.MaxPoints, impl.MaxRecords, impl.MaxCommand, impl.MaxReply, impl.MaxScriptLines,
		impl.DeedSlide, impl.DeedPut, impl.DeedTake, impl.DeedForm, impl.DeedSnake, impl.LogOK, impl.LogInvalid, impl.LogFull}
	if want := []int{1000, 9999999, 60, 160, 250, 30, 1, 2, 3, 4, 5, 0, 1, 2}; !slices.Equal(got, want) {
		t.Errorf("%v, not %v", got, want)
	}
}

func isPlainDesk(d impl.Desk) bool {
	for _, n := range cellsOf(d.Board) {
		if n < 0 || n > 17 {
			return false
		}
	}
	return d.Points >= 0 && d.Points <= 9999999 && d.Count >= 0 && d.Count <= 1000
}

// plainDeed tells a Deed by what the second reckonings of the earlier chapters make of the Board.
func plainDeed(d impl.Desk, x impl.Deed) (impl.Desk, bool) {
	if !isPlainDesk(d) || !hasPlainCondition(d.Board, x) {
		return impl.Desk{}, false
	}
	next := impl.Desk{Board: d.Board, Points: d.Points, Count: d.Count + 1}
	switch x.Kind {
	case 1:
		slid, score, _ := plainSlide(d.Board, x.A)
		next.Board, next.Points = slid, d.Points+score
	case 2:
		next.Board.Rows[x.A][x.B] = x.C
	case 3:
		next.Board.Rows[x.A][x.B] = 0
	case 4:
		next.Board = plainForm(d.Board, x.A)
	case 5:
		next.Board = plainSnakeBoard(d.Board, x.A)
	}
	if !isPlainDesk(next) {
		return impl.Desk{}, false
	}
	return next, true
}

// hasPlainCondition tells whether the condition of a Deed holds, and what it does not name is 0.
func hasPlainCondition(b impl.Board, x impl.Deed) bool {
	isCell := x.A >= 0 && x.A <= 3 && x.B >= 0 && x.B <= 3
	switch x.Kind {
	case 1:
		return x.B == 0 && x.C == 0 && slices.Contains(plainMoves(b), x.A)
	case 2:
		return isCell && b.Rows[x.A][x.B] == 0 && x.C >= 1 && x.C <= 17
	case 3:
		return isCell && b.Rows[x.A][x.B] != 0 && x.C == 0
	case 4, 5:
		return x.A >= 0 && x.A <= 7 && x.B == 0 && x.C == 0
	}
	return false
}

func checkDeed(t *testing.T, d impl.Desk, x impl.Deed, want impl.Desk, fine bool) {
	t.Helper()
	if next, ok := impl.DoDeed(d, x); ok != fine || next != want {
		t.Errorf("DoDeed(%v, %v) = %v, %v, not %v, %v", d, x, next, ok, want, fine)
	}
}

func checkDeeds(t *testing.T, d impl.Desk, list []impl.Deed, want impl.Desk, many int, fine bool) {
	t.Helper()
	kept := slices.Clone(list)
	if end, made, ok := impl.DoDeeds(d, list); ok != fine || end != want || made != many {
		t.Errorf("DoDeeds(%v, %v) = %v, %d, %v, not %v, %d, %v", d, list, end, made, ok, want, many, fine)
	}
	if !slices.Equal(list, kept) {
		t.Errorf("DoDeeds(%v, ..) changes its list", d)
	}
}

// wrongPoints and wrongDeedCounts are none of a Desk.
func wrongPoints() []int {
	return []int{-1, 10000000, 10000001, -9999999, 1 << 32, 1<<32 + 1, math.MaxInt, math.MaxInt - 1000000, math.MinInt}
}

func wrongDeedCounts() []int {
	return []int{-1, 1001, 1002, -1000, 1 << 16, 1 << 32, 1<<32 + 1, math.MaxInt, math.MinInt}
}

// wrongDesks returns Desks of which one thing, or all, is not valid.
func wrongDesks() []impl.Desk {
	desks := []impl.Desk{}
	for i, b := range wrongBoards() {
		desks = append(desks, impl.Desk{Board: b})
		if i%10 == 0 {
			desks = append(desks, impl.Desk{Board: b, Points: 5, Count: 5}, impl.Desk{Board: b, Points: -1, Count: 1001})
		}
	}
	for _, b := range goodBoards() {
		for _, n := range wrongPoints() {
			desks = append(desks, impl.Desk{Board: b, Points: n}, impl.Desk{Board: b, Points: n, Count: 1000})
		}
		for _, n := range wrongDeedCounts() {
			desks = append(desks, impl.Desk{Board: b, Count: n}, impl.Desk{Board: b, Points: 9999999, Count: n})
		}
	}
	return desks
}

// deskSamples holds valid Desks of all kinds, the same ones each time.
var deskSamples = sync.OnceValue(func() []impl.Desk {
	desks := []impl.Desk{{}, {Points: impl.MaxPoints, Count: impl.MaxDeeds}}
	source := rand.New(rand.NewSource(121))
	for _, b := range slices.Concat(goodBoards(), overBoards(), reachSamples(), crampedBoards()[:60], differentBoards()) {
		desks = append(desks, impl.Desk{Board: b, Points: source.Intn(100000), Count: source.Intn(900)})
	}
	return desks
})

// someDeeds returns Deeds of all kinds and others, with A, B and C in and out of their ranges.
func someDeeds(source *rand.Rand, many int) []impl.Deed {
	deeds := []impl.Deed{}
	for range many {
		x := impl.Deed{Kind: source.Intn(7), A: source.Intn(10) - 1, B: source.Intn(6) - 1, C: source.Intn(20) - 1}
		if source.Intn(4) > 0 && x.Kind != impl.DeedPut {
			x.C = 0
			if x.Kind != impl.DeedTake {
				x.B = 0
			}
		}
		deeds = append(deeds, x)
	}
	return deeds
}

func TestIsDeskAndNewDesk(t *testing.T) {
	for _, d := range deskSamples() {
		if !impl.IsDesk(d) {
			t.Errorf("IsDesk(%v) is false", d)
		}
		if made, ok := impl.NewDesk(d.Board); !ok || made != (impl.Desk{Board: d.Board}) {
			t.Errorf("NewDesk(%v) = %v, %v", d.Board, made, ok)
		}
	}
	for _, points := range []int{0, 1, impl.MaxPoints - 1, impl.MaxPoints} {
		for _, count := range []int{0, 1, impl.MaxDeeds - 1, impl.MaxDeeds} {
			if d := deskOf("aabc", points, count); !impl.IsDesk(d) {
				t.Errorf("IsDesk(%v) is false", d)
			}
		}
	}
	for _, d := range wrongDesks() {
		if impl.IsDesk(d) {
			t.Errorf("IsDesk(%v) is true", d)
		}
	}
	for _, b := range wrongBoards() {
		if d, ok := impl.NewDesk(b); ok || d != (impl.Desk{}) {
			t.Errorf("NewDesk(%v) = %v, %v", b, d, ok)
		}
	}
}

func TestKnownDeeds(t *testing.T) {
	for _, c := range []struct {
		board string
		deed  impl.Deed
		want  string
		score int
	}{
		{"aab.", deed(impl.DeedSlide, left), "bb..", 4},
		{"aab.", deed(impl.DeedSlide, right), "..bb", 4},
		{"aab.", deed(impl.DeedSlide, down), "..../..../..../aab.", 0},
		{"a.../a.../b.../....", deed(impl.DeedSlide, up), "b.../b.../..../....", 4},
		{"pppp", deed(impl.DeedSlide, left), "qq..", 262144},
		{"ab../..../..../....", deed(impl.DeedPut, 0, 2, 1), "aba.", 0},
		{"ab../..../..../....", deed(impl.DeedPut, 3, 1, 17), "ab../..../..../.q..", 0},
		{"abcd/efgh/ijkl/mno.", deed(impl.DeedPut, 3, 3, 16), "abcd/efgh/ijkl/mnop", 0},
		{emptyText, deed(impl.DeedPut, 0, 0, 9), "i...", 0},
		{"ab../..../..../....", deed(impl.DeedTake, 0, 1), "a...", 0},
		{"abcd/efgh/ijkl/mnop", deed(impl.DeedTake, 2, 3), "abcd/efgh/ijk./mnop", 0},
		{"...a/..../..../....", deed(impl.DeedTake, 0, 3), emptyText, 0},
		{"abcd/..../..../e...", deed(impl.DeedForm, 0), "abcd/..../..../e...", 0},
		{"abcd/..../..../e...", deed(impl.DeedForm, 1), "e..a/...b/...c/...d", 0},
		{"abcd/..../..../e...", deed(impl.DeedForm, 4), "dcba/..../..../...e", 0},
		{"abcd/..../..../e...", deed(impl.DeedForm, 7), "...d/...c/...b/e..a", 0},
		{emptyText, deed(impl.DeedForm, 7), emptyText, 0},
		{"abca/..../..../..ee", deed(impl.DeedSnake, 0), "eecb/..aa/..../....", 0},
		{"abca/..../..../..ee", deed(impl.DeedSnake, 4), "bcee/aa../..../....", 0},
		{"fedc/...b/..../....", deed(impl.DeedSnake, 0), "fedc/...b/..../....", 0},
		{emptyText, deed(impl.DeedSnake, 7), emptyText, 0},
		{"qqqq/qqqq/qqqq/qqqq", deed(impl.DeedSnake, 3), "qqqq/qqqq/qqqq/qqqq", 0},
	} {
		checkDeed(t, deskOf(c.board, 0, 0), c.deed, deskOf(c.want, c.score, 1), true)
		checkDeed(t, deskOf(c.board, 77, 999), c.deed, deskOf(c.want, 77+c.score, 1000), true)
		checkDeed(t, deskOf(c.board, impl.MaxPoints-c.score, 5), c.deed, deskOf(c.want, impl.MaxPoints, 6), true)
		checkDeed(t, deskOf(c.board, 0, impl.MaxDeeds), c.deed, impl.Desk{}, false)
		if c.score > 0 {
			checkDeed(t, deskOf(c.board, impl.MaxPoints-c.score+1, 5), c.deed, impl.Desk{}, false)
			checkDeed(t, deskOf(c.board, impl.MaxPoints, 5), c.deed, impl.Desk{}, false)
		}
	}
}

func TestDeedsThatAreNotPossible(t *testing.T) {
	for _, c := range []struct {
		board string
		deed  impl.Deed
	}{
		// The slide is no move.
		{"ab..", deed(impl.DeedSlide, left)}, {"ab..", deed(impl.DeedSlide, up)}, {emptyText, deed(impl.DeedSlide, down)},
		{"abab/baba/abab/baba", deed(impl.DeedSlide, right)}, {"qqqq/qqqq/qqqq/qqqq", deed(impl.DeedSlide, left)},
		{"cdef/ghij/klmn/opq.", deed(impl.DeedSlide, up)},
		// The cell has a tile already, or has none.
		{"ab..", deed(impl.DeedPut, 0, 1, 1)}, {"ab..", deed(impl.DeedPut, 0, 0, 1)}, {"abcd/efgh/ijkl/mnop", deed(impl.DeedPut, 3, 3, 1)},
		{"ab..", deed(impl.DeedTake, 0, 2)}, {"ab..", deed(impl.DeedTake, 1, 1)}, {emptyText, deed(impl.DeedTake)},
		// What is put is no tile.
		{"ab..", deed(impl.DeedPut, 1, 1, 0)}, {"ab..", deed(impl.DeedPut, 1, 1, 18)}, {"ab..", deed(impl.DeedPut, 1, 1, -1)},
		// There is no such cell, form, snake or direction.
		{"ab..", deed(impl.DeedSlide, 4)}, {"ab..", deed(impl.DeedSlide, -1)}, {"ab..", deed(impl.DeedForm, 8)},
		{"ab..", deed(impl.DeedForm, -1)}, {"ab..", deed(impl.DeedSnake, 8)}, {"ab..", deed(impl.DeedSnake, -1)},
		{"ab..", deed(impl.DeedPut, 4, 0, 1)}, {"ab..", deed(impl.DeedPut, 0, 4, 1)}, {"ab..", deed(impl.DeedPut, -1, 0, 1)},
		{"ab..", deed(impl.DeedPut, 0, -1, 1)}, {"ab..", deed(impl.DeedTake, 0, -1)}, {"ab..", deed(impl.DeedTake, 4, 1)},
		// What is not named is not 0.
		{"ab..", deed(impl.DeedSlide, right, 1)}, {"ab..", deed(impl.DeedSlide, right, 0, 1)}, {"ab..", deed(impl.DeedTake, 0, 1, 2)},
		{"ab..", deed(impl.DeedTake, 0, 0, -1)}, {"ab..", deed(impl.DeedForm, 1, 1)}, {"ab..", deed(impl.DeedForm, 1, 0, -1)},
		{"ab..", deed(impl.DeedSnake, 1, -1)}, {"ab..", deed(impl.DeedSnake, 1, 0, 1)}, {emptyText, deed(impl.DeedForm, 0, 0, 1)},
		// There is no such Kind.
		{"ab..", deed(0)}, {"ab..", deed(6)}, {"ab..", deed(-1)}, {"ab..", deed(0, 2)}, {"ab..", deed(6, 1)}, {"ab..", deed(6, 1, 1, 1)},
		{"ab..", deed(0, 1, 1, 1)}, {"ab..", deed(1<<32+1, 2)}, {"ab..", deed(257, 2)}, {"ab..", deed(math.MinInt)}, {"ab..", deed(math.MaxInt)},
	} {
		for _, d := range []impl.Desk{deskOf(c.board, 0, 0), deskOf(c.board, 50, 999), deskOf(c.board, impl.MaxPoints, impl.MaxDeeds)} {
			checkDeed(t, d, c.deed, impl.Desk{}, false)
			checkDeeds(t, d, []impl.Deed{c.deed, deed(impl.DeedForm, 0)}, d, 0, true)
		}
	}
}

func TestDeedsOfAllNumbersNearTheirRanges(t *testing.T) {
	possible := 0
	for i, b := range []impl.Board{{}, boardOf("aab./..../b.../c..q"), boardOf("abcd/efgh/ijkl/mno."), fullOf(impl.MaxTile)} {
		d := impl.Desk{Board: b, Points: 10 * i, Count: i}
		for kind := -1; kind <= 7; kind++ {
			for number := range 11 * 7 * 20 {
				x := deed(kind, number%11-1, number/11%7-1, number/77-1)
				want, fine := plainDeed(d, x)
				checkDeed(t, d, x, want, fine)
				if fine {
					possible++
				}
			}
		}
	}
	if possible < 500 {
		t.Errorf("only %d are possible", possible)
	}
}

func TestDeedsWithNumbersOfTheGreatestSize(t *testing.T) {
	d := deskOf("aab./..../b.../c..q", 4, 4)
	for kind := range 7 {
		for _, n := range []int{math.MaxInt, math.MinInt, math.MinInt + 1, 1 << 32, 1<<32 + 1, 1 << 63 >> 1, 256, -256, 1 << 16} {
			for _, low := range []int{0, 1} {
				for _, x := range []impl.Deed{deed(kind, n, low, low), deed(kind, low, n, low), deed(kind, low, low, n), deed(kind, n, n, n), deed(n, low, low, low), deed(n, n, n, n)} {
					checkDeed(t, d, x, impl.Desk{}, false)
				}
			}
		}
	}
}

func TestDeedsOfSamples(t *testing.T) {
	source := rand.New(rand.NewSource(122))
	kinds := map[int]int{}
	for _, d := range deskSamples() {
		for _, x := range someDeeds(source, 60) {
			want, fine := plainDeed(d, x)
			checkDeed(t, d, x, want, fine)
			if fine {
				kinds[x.Kind]++
			}
		}
	}
	for kind := impl.DeedSlide; kind <= impl.DeedSnake; kind++ {
		if kinds[kind] < 300 {
			t.Errorf("only %d Deeds of the kind %d are possible", kinds[kind], kind)
		}
	}
}

func TestDeedsOfWrongDesks(t *testing.T) {
	for _, d := range wrongDesks() {
		for _, x := range []impl.Deed{deed(1, left), deed(1, down), deed(2, 3, 3, 1), deed(3, 0, 0), deed(4, 1), deed(5, 2)} {
			checkDeed(t, d, x, impl.Desk{}, false)
		}
		checkDeeds(t, d, nil, impl.Desk{}, 0, false)
		checkDeeds(t, d, []impl.Deed{deed(4, 1)}, impl.Desk{}, 0, false)
		if left, ok := impl.PointsLeft(d); ok || left != 0 {
			t.Errorf("PointsLeft(%v) = %d, %v", d, left, ok)
		}
	}
}

func TestDoDeeds(t *testing.T) {
	slide, put, take := deed(impl.DeedSlide, left), deed(impl.DeedPut, 3, 3, 1), deed(impl.DeedTake, 3, 3)
	d := deskOf("aab.", 10, 20)
	checkDeeds(t, d, nil, d, 0, true)
	checkDeeds(t, d, []impl.Deed{}, d, 0, true)
	checkDeeds(t, d, []impl.Deed{slide}, deskOf("bb..", 14, 21), 1, true)
	checkDeeds(t, d, []impl.Deed{slide, slide}, deskOf("c...", 22, 22), 2, true)
	// The third slide is no move, and what comes behind it is not made.
	checkDeeds(t, d, []impl.Deed{slide, slide, slide, put}, deskOf("c...", 22, 22), 2, true)
	checkDeeds(t, d, []impl.Deed{take, slide}, d, 0, true)
	checkDeeds(t, d, []impl.Deed{put, put, take}, deskOf("aab./..../..../...a", 10, 21), 1, true)
	checkDeeds(t, d, []impl.Deed{put, take, slide}, deskOf("bb..", 14, 23), 3, true)
	checkDeeds(t, d, []impl.Deed{slide, deed(9), slide}, deskOf("bb..", 14, 21), 1, true)
	full := deskOf("aab.", 10, impl.MaxDeeds)
	checkDeeds(t, full, nil, full, 0, true)
	checkDeeds(t, full, []impl.Deed{put}, full, 0, true)
	near := deskOf("aab.", impl.MaxPoints-11, impl.MaxDeeds-2)
	checkDeeds(t, near, []impl.Deed{slide, slide}, deskOf("bb..", impl.MaxPoints-7, impl.MaxDeeds-1), 1, true)
	checkDeeds(t, near, []impl.Deed{slide, put, take}, deskOf("bb../..../..../...a", impl.MaxPoints-7, impl.MaxDeeds), 2, true)
	both := slices.Repeat([]impl.Deed{put, take}, 600)
	checkDeeds(t, deskOf("aab.", 0, 0), both[:1000], deskOf("aab.", 0, 1000), 1000, true)
	checkDeeds(t, deskOf("aab.", 0, 0), both, deskOf("aab.", 0, 1000), 1000, true)
	checkDeeds(t, deskOf("aab.", 0, 0), both[:999], deskOf("aab./..../..../...a", 0, 999), 999, true)
	checkDeeds(t, deskOf("aab.", 0, 1), both, deskOf("aab./..../..../...a", 0, 1000), 999, true)
}

// possibleDeed returns a Deed that is possible, if one is found soon.
func possibleDeed(source *rand.Rand, d impl.Desk) impl.Deed {
	deeds := someDeeds(source, 30)
	for _, x := range deeds {
		if _, ok := plainDeed(d, x); ok {
			return x
		}
	}
	return deeds[0]
}

func TestDoDeedsOfSamples(t *testing.T) {
	source := rand.New(rand.NewSource(123))
	lengths := map[int]int{}
	for _, d := range deskSamples() {
		for range 5 {
			list, end, made, goesOn := []impl.Deed{}, d, 0, true
			for range 12 {
				x := possibleDeed(source, end)
				if source.Intn(20) == 0 {
					x = someDeeds(source, 1)[0]
				}
				list = append(list, x)
				next, ok := plainDeed(end, x)
				goesOn = goesOn && ok
				if goesOn {
					end, made = next, made+1
				}
			}
			checkDeeds(t, d, list, end, made, true)
			lengths[made]++
		}
	}
	if lengths[12] < 100 || len(lengths) < 12 {
		t.Errorf("the numbers of Deeds that are made: %v", lengths)
	}
}

func checkLeft(t *testing.T, d impl.Desk, want int) {
	t.Helper()
	if n, ok := impl.PointsLeft(d); !ok || n != want {
		t.Errorf("PointsLeft(%v) = %d, %v, not %d", d, n, ok, want)
	}
}

func TestPointsLeft(t *testing.T) {
	checkLeft(t, impl.Desk{}, 0)
	checkLeft(t, deskOf(emptyText, impl.MaxPoints, 0), -9999999)
	checkLeft(t, deskOf("a...", 0, 1000), 0)
	checkLeft(t, deskOf("aaaa/aaaa/aaaa/aaaa", 1, 0), -1)
	checkLeft(t, deskOf("b...", 4, 0), 0)
	checkLeft(t, deskOf("bc.b", 1, 3), 23)
	checkLeft(t, deskOf("q...", 0, 0), 2097152)
	checkLeft(t, deskOf("qqqq/qqqq/qqqq/qqqq", 0, 0), 33554432)
	checkLeft(t, deskOf("qqqq/qqqq/qqqq/qqqq", impl.MaxPoints, 7), 23554433)
	for _, d := range deskSamples() {
		checkLeft(t, d, plainPotential(d.Board)-d.Points)
	}
}

// Promise 12, its second part.
func TestMovesKeepThePointsThatAreLeft(t *testing.T) {
	moves := 0
	for _, d := range deskSamples() {
		before, _ := impl.PointsLeft(d)
		for direction := range 4 {
			if next, ok := impl.DoDeed(d, deed(impl.DeedSlide, direction)); ok {
				moves++
				checkLeft(t, next, before)
			}
		}
	}
	if moves < 500 {
		t.Errorf("there are only %d", moves)
	}
}

// The guarantee of the chapter, its second part.
func TestATileThatIsTakenBehindPutLeavesTheBoard(t *testing.T) {
	for _, d := range deskSamples() {
		for number := range 16 * 17 {
			cell := [2]int{number / 17 / 4, number / 17 % 4}
			put, ok := impl.DoDeed(d, deed(impl.DeedPut, cell[0], cell[1], number%17+1))
			if isFree := d.Board.Rows[cell[0]][cell[1]] == 0 && d.Count < impl.MaxDeeds; ok != isFree {
				t.Errorf("DoDeed(%v, put to %v) = %v, %v", d, cell, put, ok)
			} else if ok {
				checkDeed(t, put, deed(impl.DeedTake, cell[0], cell[1]), impl.Desk{Board: d.Board, Points: d.Points, Count: d.Count + 2}, true)
			}
		}
	}
}

// A record is told by the forms of its texts: no `#`, and no `@` in the command.
var (
	commandForm = regexp.MustCompile(`^[ -"$-?A-~]{1,160}\z`)
	replyForm   = regexp.MustCompile(`^[ -"$-~]{0,250}\z`)
	lineForm    = regexp.MustCompile(`^([0-9]+) ([ -"$-?A-~]{1,160})@([ -"$-~]{0,250})#([0-9]+)\n`)
)

func isPlainRecord(e impl.LogRecord) bool {
	return commandForm.MatchString(e.Command) && replyForm.MatchString(e.Reply)
}

// plainLine writes a record that need not be valid.
func plainEncoding(k int, e impl.LogRecord) string {
	return sealedOf(fmt.Sprint(k)+" "+e.Command+"@"+e.Reply) + "\n"
}

func plainWritten(records []impl.LogRecord) string {
	text := strings.Builder{}
	for k, e := range records {
		text.WriteString(plainEncoding(k, e))
	}
	return text.String()
}

// plainRead returns the records that a text begins with, and where the encoding of each one ends.
func plainRead(s string) ([]impl.LogRecord, []int) {
	records, ends, at := []impl.LogRecord{}, []int{0}, 0
	for len(records) < 60 {
		parts := lineForm.FindStringSubmatch(s[at:])
		if parts == nil || parts[1] != strconv.Itoa(len(records)) {
			break
		}
		if parts[4] != strconv.Itoa(plainChecksum(parts[1]+" "+parts[2]+"@"+parts[3])) {
			break
		}
		at += len(parts[0])
		records, ends = append(records, impl.LogRecord{Command: parts[2], Reply: parts[3]}), append(ends, at)
	}
	return records, ends
}

func isPlainLog(l impl.Log) bool {
	whole := l.Durable + l.Pending
	if len(whole) > 30000 {
		return false
	}
	records, ends := plainRead(whole)
	return len(records) == l.Count && ends[len(records)] == len(whole) && slices.Contains(ends, len(l.Durable))
}

func checkRecord(t *testing.T, e impl.LogRecord, want bool) {
	t.Helper()
	if impl.IsValidRecord(e) != want {
		t.Errorf("IsValidRecord(%q) is not %v", e, want)
	}
	for _, k := range []int{0, 7, 59} {
		line := ""
		if want {
			line = plainEncoding(k, e)
		}
		checkEncoded(t, k, e, line, want)
	}
}

func checkEncoded(t *testing.T, k int, e impl.LogRecord, want string, fine bool) {
	t.Helper()
	if line, ok := impl.EncodeRecord(k, e); ok != fine || line != want {
		t.Errorf("EncodeRecord(%d, %q) = %q, %v, not %q, %v", k, e, line, ok, want, fine)
	}
}

// longRecord has the longest Command and the longest Reply.
func longRecord(command string, reply string) impl.LogRecord {
	return impl.LogRecord{Command: strings.Repeat(command, impl.MaxCommand), Reply: strings.Repeat(reply, impl.MaxReply)}
}

// wrongRecords returns records that are not valid.
func wrongRecords() []impl.LogRecord {
	records := []impl.LogRecord{
		{}, {Reply: "x"}, {Command: strings.Repeat("a", 161)}, {Command: "a", Reply: strings.Repeat("a", 251)},
		{Command: strings.Repeat("a", 161), Reply: strings.Repeat("a", 251)}, {Command: strings.Repeat("a", 1<<20)},
		{Command: "a", Reply: strings.Repeat("9", 1<<20)}, {Command: "a@"}, {Command: "@a"}, {Command: "@"}, {Command: "a@b", Reply: "c"},
		{Command: "#"}, {Command: "a#b"}, {Command: "a", Reply: "#"}, {Command: "a", Reply: "b#385"},
	}
	for c := range 256 {
		if c >= 32 && c <= 126 && c != '#' {
			continue
		}
		one := string([]byte{byte(c)})
		records = append(records, impl.LogRecord{Command: one}, impl.LogRecord{Command: "sum" + one}, impl.LogRecord{Command: one + "sum"},
			impl.LogRecord{Command: "su" + one + "m", Reply: "4"}, impl.LogRecord{Command: "sum", Reply: one},
			impl.LogRecord{Command: "sum", Reply: one + "4"}, impl.LogRecord{Command: "sum", Reply: "4" + one}, impl.LogRecord{Command: one, Reply: one})
	}
	return records
}

func TestRecords(t *testing.T) {
	for _, e := range []impl.LogRecord{
		{Command: "sum", Reply: "4"}, {Command: "a"}, {Command: " ", Reply: " "}, {Command: "a", Reply: "@"}, {Command: "a", Reply: "a@b@c"},
		{Command: "put 0 0 1", Reply: "16"}, {Command: " a  b ", Reply: "  "}, {Command: "0 a", Reply: "1 b"}, {Command: "\"~!$?A[{}", Reply: "\"~!$?@A"},
		longRecord("a", "b"), longRecord("~", " "), longRecord(" ", "@"), {Command: strings.Repeat("9", 160)}, {Command: "9", Reply: strings.Repeat("@", 250)},
	} {
		checkRecord(t, e, true)
	}
	for _, e := range wrongRecords() {
		checkRecord(t, e, false)
	}
	for c := range 256 {
		one := string([]byte{byte(c)})
		for _, e := range []impl.LogRecord{{Command: one, Reply: "4"}, {Command: "a", Reply: one}, {Command: "a" + one + "b", Reply: "ab"}, {Command: "ab", Reply: "a" + one + "b"}} {
			checkRecord(t, e, isPlainRecord(e))
		}
	}
	for size := range 400 {
		checkRecord(t, impl.LogRecord{Command: strings.Repeat("a", size), Reply: "x"}, size >= 1 && size <= 160)
		checkRecord(t, impl.LogRecord{Command: "a", Reply: strings.Repeat("x", size)}, size <= 250)
	}
}

func TestEncodeRecord(t *testing.T) {
	checkEncoded(t, 0, impl.LogRecord{Command: "sum", Reply: "?"}, "0 sum@?#"+fmt.Sprint(plainChecksum("0 sum@?"))+"\n", true)
	e := impl.LogRecord{Command: "a", Reply: ""}
	for k := range 60 {
		checkEncoded(t, k, e, plainEncoding(k, e), true)
		checkEncoded(t, k, longRecord("z", "@"), plainEncoding(k, longRecord("z", "@")), true)
	}
	for _, k := range []int{-1, 60, 61, 100, -60, 256, 1 << 32, 1<<32 + 1, math.MaxInt, math.MinInt} {
		checkEncoded(t, k, e, "", false)
		checkEncoded(t, k, impl.LogRecord{}, "", false)
	}
}

// randomRecords returns records of all lengths.
func randomRecords(source *rand.Rand, many int) []impl.LogRecord {
	printed := ""
	for c := ' '; c <= '~'; c++ {
		if c != '#' {
			printed += string(c)
		}
	}
	records := []impl.LogRecord{}
	for i := range many {
		e := impl.LogRecord{Command: "sum", Reply: fmt.Sprint(i)}
		switch i % 4 {
		case 1:
			e = impl.LogRecord{Command: randomText(source, strings.ReplaceAll(printed, "@", ""), 1+source.Intn(20)), Reply: randomText(source, printed, source.Intn(20))}
		case 2:
			e = impl.LogRecord{Command: randomText(source, "0 1", 1+source.Intn(8)), Reply: randomText(source, "@ 0", source.Intn(8))}
		case 3:
			e = impl.LogRecord{Command: randomText(source, "ab", 1+source.Intn(160)), Reply: randomText(source, "?@", source.Intn(251))}
		}
		records = append(records, e)
	}
	return records
}

// logOf returns the valid Log with some records, of which the first durable ones are durable.
func logOf(records []impl.LogRecord, durable int) impl.Log {
	first := plainWritten(records[:durable])
	return impl.Log{Durable: first, Pending: plainWritten(records)[len(first):], Count: len(records)}
}

// sampleLogs holds valid Logs with 0..MaxRecords records, durable and pending.
var sampleLogs = sync.OnceValue(func() []impl.Log {
	source := rand.New(rand.NewSource(124))
	logs := []impl.Log{{}}
	for many := range impl.MaxRecords + 1 {
		records := randomRecords(source, many)
		for _, durable := range []int{0, source.Intn(many + 1), many} {
			logs = append(logs, logOf(records, durable))
		}
	}
	longest := slices.Repeat([]impl.LogRecord{longRecord("a", "b")}, 60)
	return append(logs, logOf(longest, 0), logOf(longest, 30), logOf(longest, 60))
})

// wrongLogs holds Logs that are not valid.
var wrongLogs = sync.OnceValue(func() []impl.Log {
	one, two, three := impl.LogRecord{Command: "sum", Reply: "4"}, impl.LogRecord{Command: "moves", Reply: "none"}, impl.LogRecord{Command: "x", Reply: "?"}
	all := []impl.LogRecord{one, two, three}
	whole := plainWritten(all)
	logs := []impl.Log{{Count: 1}, {Count: -1}, {Durable: "\n", Count: 0}, {Pending: "\n", Count: 1}, {Durable: "x"}, {Pending: " "}}
	for _, count := range []int{0, 1, 2, 4, -1, -3, 3 + 1<<32, math.MaxInt, math.MinInt} {
		logs = append(logs, impl.Log{Durable: whole, Count: count}, impl.Log{Pending: whole, Count: count})
	}
	// Durable ends inside a record.
	ends := []int{0, len(plainWritten(all[:1])), len(plainWritten(all[:2])), len(whole)}
	for cut := range len(whole) {
		if !slices.Contains(ends, cut) {
			logs = append(logs, impl.Log{Durable: whole[:cut], Pending: whole[cut:], Count: 3}, impl.Log{Durable: whole[:cut], Count: 3},
				impl.Log{Pending: whole[:cut], Count: strings.Count(whole[:cut], "\n")}, impl.Log{Pending: whole[:cut], Count: strings.Count(whole[:cut], "\n") + 1})
		}
	}
	for _, text := range []string{
		// Sequence numbers out of order.
		plainEncoding(1, one), plainEncoding(0, one) + plainEncoding(0, two), plainEncoding(0, one) + plainEncoding(2, two), plainEncoding(1, one) + plainEncoding(0, two),
		plainEncoding(0, one) + plainEncoding(1, two) + plainEncoding(1, three), plainEncoding(-1, one), plainEncoding(60, one),
		// Sequence numbers written in another way, or not there.
		sealedOf("00 sum@4") + "\n", sealedOf("+0 sum@4") + "\n", sealedOf("-0 sum@4") + "\n", sealedOf(" 0 sum@4") + "\n", sealedOf("0  sum@4\n") + "\n",
		sealedOf("sum@4") + "\n", sealedOf(" sum@4") + "\n", sealedOf("0sum@4") + "\n", sealedOf("0\tsum@4") + "\n", sealedOf("0x0 sum@4") + "\n",
		// Records that are not valid.
		sealedOf("0 @4") + "\n", sealedOf("0 sum") + "\n", sealedOf("0 su\x7fm@4") + "\n", sealedOf("0 sum@\x1f") + "\n", sealedOf("0 sum@\x80") + "\n",
		sealedOf("0") + "\n", sealedOf("0 ") + "\n", sealedOf("0@4") + "\n", sealedOf("") + "\n", sealedOf("0 s\nm@4") + "\n", sealedOf("0 sum@4\n") + "\n",
		plainEncoding(0, impl.LogRecord{Command: strings.Repeat("a", 161)}), plainEncoding(0, impl.LogRecord{Command: "a", Reply: strings.Repeat("a", 251)}),
		plainEncoding(0, impl.LogRecord{Command: "a#b"}), plainEncoding(0, impl.LogRecord{Command: "a", Reply: "#"}), plainEncoding(0, impl.LogRecord{Command: strings.Repeat("a", 29000)}),
		// Checksums that are broken, and lines that are not ended, or by something else.
		"0 sum@4#385\n", "0 sum@4#\n", "0 sum@4\n", "0 sum@4#0" + fmt.Sprint(plainChecksum("0 sum@4")) + "\n", sealedOf("0 sum@4"), sealedOf("0 sum@4") + "\r\n",
		sealedOf("0 sum@4") + " \n", sealedOf("0 sum@4") + "\n\n", "\n" + sealedOf("0 sum@4") + "\n", " " + plainEncoding(0, one), sealedOf("0 sum@4") + "\r", sealedOf("0 sum@4") + "\x00",
		plainEncoding(0, one) + "x", plainEncoding(0, one) + sealedOf("1 sum@4"), plainEncoding(0, one) + plainEncoding(0, one), strings.Repeat("\n", 30001),
		sealedOf("0 sum@4") + "#385\n", "0 sum@4#" + fmt.Sprint(plainChecksum("0 sum@4")) + "0\n", "0 sum@4##" + fmt.Sprint(plainChecksum("0 sum@4")) + "\n",
		strings.Repeat("0", 30000), strings.Repeat(plainEncoding(0, one), 60), strings.Repeat("#", 4001) + "\n", strings.Repeat("a", 1<<20),
	} {
		for count := range 4 {
			logs = append(logs, impl.Log{Durable: text, Count: count}, impl.Log{Pending: text, Count: count})
		}
	}
	// One record more than there may be.
	many := slices.Repeat([]impl.LogRecord{one}, 61)
	for _, count := range []int{60, 61} {
		logs = append(logs, impl.Log{Durable: plainWritten(many), Count: count}, impl.Log{Durable: plainWritten(many[:60]), Pending: plainEncoding(60, one), Count: count},
			impl.Log{Pending: plainWritten(many), Count: count})
	}
	return logs
})

func checkLogRecords(t *testing.T, l impl.Log, want []impl.LogRecord, fine bool) {
	t.Helper()
	if impl.IsValidLog(l) != fine {
		t.Errorf("IsValidLog(%v) is not %v", l, fine)
	}
	if all, ok := impl.LogRecords(l); ok != fine || !slices.Equal(all, want) {
		t.Errorf("LogRecords(%v) = %q, %v, not %q, %v", l, all, ok, want, fine)
	}
}

func TestIsValidLogAndLogRecords(t *testing.T) {
	for _, l := range sampleLogs() {
		if !isPlainLog(l) {
			t.Fatalf("the test is wrong for %v", l)
		}
		records, _ := plainRead(l.Durable + l.Pending)
		checkLogRecords(t, l, records, true)
	}
	for _, l := range wrongLogs() {
		if isPlainLog(l) {
			t.Fatalf("the test is wrong for %v", l)
		}
		checkLogRecords(t, l, nil, false)
	}
	first := []impl.LogRecord{{Command: "slide 0", Reply: "4"}, {Command: "a b", Reply: "@ @"}}
	checkLogRecords(t, logOf(first, 1), first, true)
}

func TestDurableEndsAtTheEndOfARecord(t *testing.T) {
	for i, l := range sampleLogs() {
		whole := l.Durable + l.Pending
		if i%20 != 7 || len(whole) > 6000 {
			continue
		}
		_, ends := plainRead(whole)
		for cut := range len(whole) + 1 {
			split := impl.Log{Durable: whole[:cut], Pending: whole[cut:], Count: l.Count}
			if want := slices.Contains(ends, cut); impl.IsValidLog(split) != want {
				t.Errorf("IsValidLog(%v) is not %v", split, want)
			}
		}
	}
}

func TestChangedLogsAreNotValid(t *testing.T) {
	whole := plainWritten([]impl.LogRecord{{Command: "slide 0", Reply: "4"}, {Command: "row 0", Reply: "2 0 0 0"}})
	for place := range len(whole) {
		for c := range 256 {
			changed := whole[:place] + string([]byte{byte(c)}) + whole[place+1:]
			for _, l := range []impl.Log{{Durable: changed, Count: 2}, {Pending: changed, Count: 2}} {
				if want := changed == whole; impl.IsValidLog(l) != want {
					t.Errorf("IsValidLog(%v) is not %v", l, want)
				}
			}
		}
	}
}

func checkAppended(t *testing.T, l impl.Log, e impl.LogRecord, want impl.Log, code int) {
	t.Helper()
	if next, got := impl.AppendRecord(l, e); got != code || next != want {
		t.Errorf("AppendRecord(%v, %q) = %v, %d, not %v, %d", l, e, next, got, want, code)
	}
}

func TestAppendRecord(t *testing.T) {
	source := rand.New(rand.NewSource(125))
	good := append(randomRecords(source, 8), longRecord("z", "z"))
	for _, l := range sampleLogs() {
		for _, e := range good {
			if l.Count == impl.MaxRecords {
				checkAppended(t, l, e, l, impl.LogFull)
				continue
			}
			want := impl.Log{Durable: l.Durable, Pending: l.Pending + plainEncoding(l.Count, e), Count: l.Count + 1}
			checkAppended(t, l, e, want, impl.LogOK)
		}
		for _, e := range wrongRecords()[:40] {
			checkAppended(t, l, e, l, impl.LogInvalid)
		}
	}
	for _, e := range wrongRecords() {
		checkAppended(t, impl.Log{}, e, impl.Log{}, impl.LogInvalid)
	}
	for _, l := range wrongLogs() {
		checkAppended(t, l, good[0], l, impl.LogInvalid)
		checkAppended(t, l, impl.LogRecord{}, l, impl.LogInvalid)
	}
}

func TestALogTakesMaxRecordsRecords(t *testing.T) {
	for _, e := range []impl.LogRecord{{Command: "a"}, longRecord("a", "b")} {
		l := impl.Log{}
		for k := range 60 {
			next, code := impl.AppendRecord(l, e)
			if code != impl.LogOK || !impl.IsValidLog(next) || next.Count != k+1 || next.Durable != l.Durable {
				t.Fatalf("AppendRecord(%v, %q) = %v, %d", l, e, next, code)
			}
			l = next
			if k%7 == 3 {
				l, _ = impl.SyncLog(l)
			}
		}
		checkAppended(t, l, e, l, impl.LogFull)
		checkLogRecords(t, l, slices.Repeat([]impl.LogRecord{e}, 60), true)
	}
}

func TestSyncLog(t *testing.T) {
	for _, l := range sampleLogs() {
		want := impl.Log{Durable: l.Durable + l.Pending, Count: l.Count}
		if synced, ok := impl.SyncLog(l); !ok || synced != want {
			t.Errorf("SyncLog(%v) = %v, %v", l, synced, ok)
		}
		if again, ok := impl.SyncLog(want); !ok || again != want {
			t.Errorf("SyncLog(%v) = %v, %v", want, again, ok)
		}
	}
	for _, l := range wrongLogs() {
		if synced, ok := impl.SyncLog(l); ok || synced != (impl.Log{}) {
			t.Errorf("SyncLog(%v) = %v, %v", l, synced, ok)
		}
	}
}

func checkCrash(t *testing.T, l impl.Log, keep int, torn bool, want string, fine bool) {
	t.Helper()
	if s, ok := impl.CrashLog(l, keep, torn); ok != fine || s != want {
		t.Errorf("CrashLog(%v, %d, %v) = %q, %v, not %q, %v", l, keep, torn, s, ok, want, fine)
	}
}

func checkRecovered(t *testing.T, s string, want impl.Log, fine bool) {
	t.Helper()
	if l, size, ok := impl.RecoverLog(s); ok != fine || l != want || size != len(want.Durable) {
		t.Errorf("RecoverLog(%q) = %v, %d, %v, not %v, %v", s, l, size, ok, want, fine)
	}
}

func TestCrashLogAndRecoverLog(t *testing.T) {
	for i, l := range sampleLogs() {
		whole := l.Durable + l.Pending
		_, ends := plainRead(whole)
		keeps := []int{0, 1, len(l.Pending) / 2, len(l.Pending) - 1, len(l.Pending)}
		if i%20 == 0 && len(whole) < 6000 {
			for keep := range len(l.Pending) + 1 {
				keeps = append(keeps, keep)
			}
		}
		for _, keep := range keeps {
			if keep < 0 || keep > len(l.Pending) {
				continue
			}
			kept := whole[:len(l.Durable)+keep]
			checkCrash(t, l, keep, false, kept, true)
			checkRecovered(t, kept, recoveredTo(whole, ends, len(kept)), true)
			torn, last := []byte(kept), len(kept)-1
			if keep > 0 {
				torn[last] ^= 0xff
				checkRecovered(t, string(torn), recoveredTo(whole, ends, last), true)
			}
			checkCrash(t, l, keep, true, string(torn), true)
		}
		for _, keep := range []int{-1, len(l.Pending) + 1, len(whole) + 1, -len(whole) - 1, 1 << 32, math.MaxInt, math.MinInt} {
			checkCrash(t, l, keep, false, "", false)
			checkCrash(t, l, keep, true, "", false)
		}
	}
	for _, l := range wrongLogs() {
		for _, keep := range []int{0, 1, len(l.Pending)} {
			checkCrash(t, l, keep, false, "", false)
			checkCrash(t, l, keep, true, "", false)
		}
	}
}

// recoveredTo returns the Log with all records of a text whose encodings end at a place or before.
func recoveredTo(whole string, ends []int, place int) impl.Log {
	count := 0
	for count+1 < len(ends) && ends[count+1] <= place {
		count++
	}
	return impl.Log{Durable: whole[:ends[count]], Count: count}
}

func TestRecoverLogReadsAsFarAsItCan(t *testing.T) {
	one, two := impl.LogRecord{Command: "sum", Reply: "4"}, impl.LogRecord{Command: "moves", Reply: "none"}
	first, both := impl.Log{Durable: plainEncoding(0, one), Count: 1}, impl.Log{Durable: plainEncoding(0, one) + plainEncoding(1, two), Count: 2}
	checkRecovered(t, "", impl.Log{}, true)
	checkRecovered(t, first.Durable, first, true)
	checkRecovered(t, both.Durable, both, true)
	for _, rest := range []string{
		"\n", " ", "x", "1", plainEncoding(0, one), plainEncoding(2, two), sealedOf("1 moves@none"), sealedOf("1 moves@none") + "\r\n", "1 moves@none#385\n",
		"\n" + plainEncoding(1, two), plainEncoding(2, two) + plainEncoding(1, two), sealedOf("01 moves@none") + "\n", allBytes(), strings.Repeat("#", 4001), strings.Repeat("\n", 20000),
	} {
		checkRecovered(t, first.Durable+rest, first, true)
	}
	for _, l := range wrongLogs() {
		text := l.Durable + l.Pending
		if len(text) > 30000 {
			checkRecovered(t, text, impl.Log{}, false)
			continue
		}
		_, ends := plainRead(text)
		checkRecovered(t, text, recoveredTo(text, ends, len(text)), true)
	}
	for _, s := range strangeTexts() {
		checkRecovered(t, s, impl.Log{}, len(s) <= 30000)
	}
}

func TestRecoverLogAtItsBounds(t *testing.T) {
	for _, e := range []impl.LogRecord{{Command: "a"}, longRecord("a", "b")} {
		many := slices.Repeat([]impl.LogRecord{e}, 62)
		want := impl.Log{Durable: plainWritten(many[:60]), Count: 60}
		checkRecovered(t, plainWritten(many[:60]), want, true)
		checkRecovered(t, plainWritten(many[:61]), want, true)
		checkRecovered(t, plainWritten(many), want, true)
		rest := 30000 - len(want.Durable)
		for _, fill := range []string{"x", "\n", "0"} {
			checkRecovered(t, want.Durable+strings.Repeat(fill, rest), want, true)
			checkRecovered(t, want.Durable+strings.Repeat(fill, rest+1), impl.Log{}, false)
		}
		tooLong := impl.Log{Durable: want.Durable, Pending: strings.Repeat("x", rest+1), Count: 60}
		checkLogRecords(t, tooLong, nil, false)
	}
	checkRecovered(t, strings.Repeat("\n", 30000), impl.Log{}, true)
	checkRecovered(t, strings.Repeat("\n", 30001), impl.Log{}, false)
	checkRecovered(t, strings.Repeat("x", 1<<24), impl.Log{}, false)
}

// plainKinds tells the Kind of the Deed of a command, and how many numbers it has.
func plainKinds() map[string][2]int {
	return map[string][2]int{"slide": {1, 1}, "put": {2, 3}, "take": {3, 2}, "form": {4, 1}, "snake": {5, 1}}
}

var numberForm = regexp.MustCompile(`^(0|-?[1-9][0-9]{0,5})\z`)

// plainAnswer returns the Desk behind a command and its reply.
func plainAnswer(d impl.Desk, line string) (impl.Desk, string) {
	words := strings.Split(line, " ")
	numbers := []int{}
	for _, word := range words[1:] {
		if !numberForm.MatchString(word) {
			return d, "?"
		}
		n, _ := strconv.Atoi(word)
		numbers = append(numbers, n)
	}
	kind, isDeed := plainKinds()[words[0]]
	if !isDeed {
		return d, plainReport(d, fmt.Sprint(words[0], " ", len(numbers)), append(numbers, 0)[0])
	}
	next, ok := plainDeed(d, deed(kind[0], numbers...))
	if len(numbers) != kind[1] || !ok {
		return d, "?"
	}
	switch words[0] {
	case "slide":
		return next, fmt.Sprint(next.Points)
	case "put", "take":
		return next, fmt.Sprint(plainSum(next.Board))
	}
	return next, listTold(next.Board.Rows[0][:])
}

func listTold(list []int) string {
	if len(list) == 0 {
		return "none"
	}
	return strings.Trim(fmt.Sprint(list), "[]")
}

// plainReport returns the reply to a command, with the number of its arguments, that has no Deed.
func plainReport(d impl.Desk, asked string, a int) string {
	b := d.Board
	switch asked {
	case "row 1":
		if a >= 0 && a <= 3 {
			return listTold(b.Rows[a][:])
		}
	case "board 0":
		return plainReplayText(impl.Replay{Start: b})
	case "sum 0":
		return fmt.Sprint(plainSum(b))
	case "points 0":
		return fmt.Sprint(d.Points)
	case "moves 0":
		return listTold(plainMoves(b))
	case "pairs 0":
		return fmt.Sprint(plainPairs(b))
	case "first 0":
		_, k := plainFirst(b)
		return fmt.Sprint(k)
	case "forms 0":
		return fmt.Sprint(8 / len(plainSymmetries(b)))
	case "distinct 0":
		return listTold(plainDistinct(b))
	case "steps 1":
		if a >= 0 && a <= 3 {
			return fmt.Sprint(len(plainSteps(b, a)))
		}
	case "next 0":
		return fmt.Sprint(len(plainNext(b)))
	case "highest 0":
		return fmt.Sprint(plainHighest(plainRoads(b, 6)))
	case "trapped 0":
		return map[bool]string{true: "yes", false: "no"}[plainTrapped(b)]
	case "potential 0":
		return fmt.Sprint(plainPotential(b))
	case "left 0":
		least, _ := plainLeast(plainSum(b))
		return fmt.Sprint(len(tilesOf(b)) - least)
	case "snakes 0":
		return listTold(plainSnakes(b))
	case "over 1", "room 1", "best 0":
		return plainMeanReport(b, asked, a)
	}
	return "?"
}

func plainMeanReport(b impl.Board, asked string, a int) string {
	moves := plainMoves(b)
	if asked == "best 0" {
		best, most := "?", new(big.Rat)
		for _, direction := range moves {
			slid, _, _ := plainSlide(b, direction)
			if mean := plainRoom(slid); best == "?" || mean.Cmp(most) > 0 {
				best, most = fmt.Sprint(direction), mean
			}
		}
		return best
	}
	if !slices.Contains(moves, a) {
		return "?"
	}
	slid, _, _ := plainSlide(b, a)
	if asked == "over 1" {
		return plainOver(slid).String()
	}
	return plainRoom(slid).String()
}

// run executes lines one after the other, and returns the last Console and all replies.
func run(c impl.Console, lines ...string) (impl.Console, []string) {
	replies := []string{}
	for _, line := range lines {
		next, reply := impl.ExecuteCommand(c, line)
		c, replies = next, append(replies, reply)
	}
	return c, replies
}

func consoleOf(d impl.Desk) impl.Console { return impl.Console{Desk: d} }

func checkExecuted(t *testing.T, c impl.Console, line string, want impl.Console, reply string) {
	t.Helper()
	if next, got := impl.ExecuteCommand(c, line); got != reply || next != want {
		t.Errorf("ExecuteCommand(%v, %.200q) = %v, %q, not %v, %q", c, line, next, got, want, reply)
	}
}

// logged returns the Log with one more record that is pending.
func logged(l impl.Log, line string, reply string) impl.Log {
	return impl.Log{Durable: l.Durable, Pending: l.Pending + plainEncoding(l.Count, impl.LogRecord{Command: line, Reply: reply}), Count: l.Count + 1}
}

// wrongConsoles returns Consoles whose Desk or Log, or both, are not valid.
func wrongConsoles() []impl.Console {
	consoles := []impl.Console{}
	desks, logs := wrongDesks(), wrongLogs()
	for i, d := range desks {
		consoles = append(consoles, impl.Console{Desk: d})
		if i%5 == 0 {
			consoles = append(consoles, impl.Console{Desk: d, Log: sampleLogs()[i%len(sampleLogs())]}, impl.Console{Desk: d, Log: logs[i%len(logs)]})
		}
	}
	for i, l := range logs {
		consoles = append(consoles, impl.Console{Log: l}, impl.Console{Desk: deskSamples()[i%len(deskSamples())], Log: l})
	}
	return consoles
}

func TestNewConsoleAndIsValidConsole(t *testing.T) {
	for i, d := range deskSamples() {
		if c, ok := impl.NewConsole(d); !ok || c != consoleOf(d) || !impl.IsValidConsole(c) {
			t.Errorf("NewConsole(%v) = %v, %v", d, c, ok)
		}
		if c := (impl.Console{Desk: d, Log: sampleLogs()[i%len(sampleLogs())]}); !impl.IsValidConsole(c) {
			t.Errorf("IsValidConsole(%v) is false", c)
		}
	}
	for _, d := range wrongDesks() {
		if c, ok := impl.NewConsole(d); ok || c != (impl.Console{}) {
			t.Errorf("NewConsole(%v) = %v, %v", d, c, ok)
		}
	}
	for _, c := range wrongConsoles() {
		if impl.IsValidConsole(c) {
			t.Errorf("IsValidConsole(%v) is true", c)
		}
	}
}

// reportLines are the commands that have no Deed, in the order of the table, with `row 3`, `steps`,
// `over` and `room` for several directions.
func reportLines() []string {
	return strings.Split("row 0,row 3,board,sum,points,moves,pairs,first,forms,distinct,steps 0,steps 1,next,highest,trapped,potential,left,snakes,over 0,over 2,room 0,room 3,best", ",")
}

// The replies have been worked out by hand.
func TestKnownReports(t *testing.T) {
	for _, c := range []struct{ board, replies string }{
		{"aab./..../..../c...", "1 1 2 0,3 0 0 0,aab./..../..../c...,16,55,0 1 2 3,1,7,8,0 1 3,26,24,100,4,no,20,3,none,0/1,0/1,1693/130,1349/120,0"},
		{emptyText, "0 0 0 0,0 0 0 0,..../..../..../....,0,55,none,0,0,1,none,0,0,0,0,no,0,0,0 1 2 3 4 5 6 7,?,?,?,?,?"},
		{"abab/baba/abab/baba", "1 2 1 2,2 1 2 1,abab/baba/abab/baba,48,55,none,0,0,2,none,0,0,0,2,no,32,14,none,?,?,?,?,?"},
		{"qqqq/qqqq/qqqq/qqqq", "17 17 17 17,17 17 17 17,qqqq/qqqq/qqqq/qqqq,2097152,55,none,0,0,1,none,0,0,0,17,no,33554432,0,0 1 2 3 4 5 6 7,?,?,?,?,?"},
		{"cdef/ghij/klmn/opq.", "3 4 5 6,15 16 17 0,cdef/ghij/klmn/opq.,262136,55,2 3,0,7,8,2 3,0,0,4,17,yes,3932160,0,none,?,1/1,?,0/1,2"},
		{"cdef/ghij/klmn/aop.", "3 4 5 6,1 15 16 0,cdef/ghij/klmn/aop.,131066,55,2 3,0,7,8,2 3,0,0,4,16,no,1835008,0,none,?,1/10,?,0/1,2"},
		{"dcba", "4 3 2 1,0 0 0 0,dcba/..../..../....,30,55,3,0,2,8,3,0,0,24,4,no,68,0,0,?,?,?,133/12,3"},
	} {
		lines, want := reportLines(), strings.Split(c.replies, ",")
		d := deskOf(c.board, 55, 7)
		end, replies := run(consoleOf(d), lines...)
		for i := range lines {
			if replies[i] != want[i] {
				t.Errorf("%s: %s tells %q, not %q", c.board, lines[i], replies[i], want[i])
			}
		}
		if end.Desk != d || end.Log.Count != len(lines) {
			t.Errorf("%s: the Console is %v", c.board, end)
		}
	}
}

// Points that are told, sums and potentials are greater than FormatInt takes.
func TestNumbersAreToldInFull(t *testing.T) {
	_, replies := run(consoleOf(deskOf("qqqq/qqqq/qqqq/qqqp", impl.MaxPoints-1, 0)), "points", "sum", "potential", "take 3 3", "put 3 3 17", "take 0 0")
	if want := strings.Split("9999998,2031616,32440320,1966080,2097152,1966080", ","); !slices.Equal(replies, want) {
		t.Errorf("%q, not %q", replies, want)
	}
	_, replies = run(consoleOf(deskOf("pp../pp../..../....", impl.MaxPoints-262144, 0)), "slide 0", "points", "slide 1", "points")
	if want := []string{"9999999", "9999999", "?", "9999999"}; !slices.Equal(replies, want) {
		t.Errorf("%q, not %q", replies, want)
	}
}

func TestKnownCommandsWithDeeds(t *testing.T) {
	for _, c := range []struct{ board, line, reply, want string }{
		{"aab.", "slide 0", "14", "bb.."}, {"aab.", "slide 3", "10", "..../..../..../aab."}, {"abcd", "slide 0", "?", ""},
		{"aab.", "slide 4", "?", ""}, {"aab.", "slide -1", "?", ""}, {emptyText, "slide 0", "?", ""},
		{"aab.", "put 0 3 17", "131080", "aabq"}, {emptyText, "put 3 2 1", "2", "..../..../..../..a."}, {"aab.", "put 0 0 1", "?", ""},
		{"aab.", "put 3 3 0", "?", ""}, {"aab.", "put 3 3 18", "?", ""}, {"aab.", "put 4 3 1", "?", ""}, {"aab.", "put 3 -1 1", "?", ""},
		{"aab.", "take 0 2", "4", "aa.."}, {"...q", "take 0 3", "0", emptyText}, {"aab.", "take 0 3", "?", ""}, {"aab.", "take 0 4", "?", ""},
		{"abcd/e...", "form 0", "1 2 3 4", "abcd/e.../..../...."}, {"abcd/..../..../e...", "form 1", "5 0 0 1", "e..a/...b/...c/...d"},
		{"abcd/..../..../e...", "form 7", "0 0 0 4", "...d/...c/...b/e..a"}, {"aab.", "form 8", "?", ""}, {"aab.", "form -1", "?", ""},
		{"aabc/d...", "snake 0", "4 3 2 1", "dcba/...a/..../...."}, {"aabc/d...", "snake 1", "0 0 0 4", "...d/...c/...b/..aa"},
		{"aabc/d...", "snake 7", "0 0 1 1", "..aa/...b/...c/...d"}, {"aab.", "snake 8", "?", ""}, {"aab.", "snake -1", "?", ""},
	} {
		board := c.board
		if len(board) == 9 {
			board += "/..../...."
		}
		c0 := consoleOf(deskOf(board, 10, 3))
		want := impl.Console{Desk: c0.Desk, Log: logged(c0.Log, c.line, c.reply)}
		if c.reply != "?" {
			want.Desk = deskOf(c.want, 10, 4)
		}
		if c.line == "slide 0" && c.reply != "?" {
			want.Desk.Points = 14
		}
		checkExecuted(t, c0, c.line, want, c.reply)
		c0.Desk.Count, want.Desk = impl.MaxDeeds, c0.Desk
		want.Desk.Count, want.Log = impl.MaxDeeds, logged(c0.Log, c.line, "?")
		checkExecuted(t, c0, c.line, want, "?")
	}
}

// unknownLines are lines to which the reply is `?`, whatever the Desk is.
func unknownLines() []string {
	lines := []string{" ", "  ", "a", "?", "0", "1 2 3", "Sum", "SUM", "summ", "su", "sum.", "sum,", "score", "undo", "no", "bad", "full", "none", "row0", "slide0", "left0", "help", "desk", "empty", "slides", "fo", "-", "points0", "\"sum\""}
	for _, name := range strings.Fields("board sum points moves pairs first forms distinct next highest trapped potential left snakes best") {
		lines = append(lines, name+" ", " "+name, name+" 0", name+" x", name+"  0", name+" 0 0", name+" "+name, name+" 0 0 0", name+"  ")
	}
	for _, name := range strings.Fields("slide form snake row steps over room") {
		lines = append(lines, name, name+" ", name+"  0", " "+name+" 0", name+" 0 ", name+" 0 0", name+" 0 0 0", name+" 0 x", name+" x", name+" 8", name+" -1", name+" 1000000", name+" 999999", name+" -999999")
		for _, word := range malformedNumbers() {
			lines = append(lines, name+" "+word)
		}
	}
	lines = append(lines, "row 4", "steps 4", "over 4", "room 4", "slide 4", "row -1", "steps -1", "over -1", "room -1", "room 9", "row 256", "steps 256")
	for _, name := range []string{"put", "take"} {
		lines = append(lines, name, name+" 0", name+" 1 1 1 1", name+" 1 1 1 0", name+" ", name+"  1 1 1", name+" 1  1 1", name+" 1 1  1", name+" 1 1 1 ", name+" 1 1 ", " "+name+" 1 1 1",
			name+" 4 0 1", name+" 0 4 1", name+" -1 0 1", name+" 0 -1 1", name+" 4 0", name+" 0 4", name+" -1 0", name+" 0 -1", name+" 999999 0", name+" 0 -999999", name+" 999999 999999 999999")
		for _, word := range malformedNumbers() {
			lines = append(lines, name+" "+word+" 1 1", name+" 1 "+word+" 1", name+" 1 1 "+word, name+" "+word+" 1", name+" 1 "+word)
		}
	}
	lines = append(lines, "put 1 1", "put 1 1 0", "put 1 1 18", "put 1 1 -1", "put 1 1 999999", "take 1 1 0", "take 1 1 1", "put 0 0 1 0", "take 0 0 0")
	return append(lines, strings.Repeat("a", 160), strings.Repeat(" ", 160), "sum"+strings.Repeat(" ", 157), "slide "+strings.Repeat("0", 154), "row "+strings.Repeat("9", 156), strings.TrimSpace(strings.Repeat("put ", 40)))
}

func malformedNumbers() []string {
	return []string{"x", "+0", "+1", "-0", "00", "01", "-01", "0x1", "1.0", "1e0", "0_1", "1000000", "-1000000", "99999999999999999999", "18446744073709551616", "--1", "-", "1-", "0,", "0;", "'0'"}
}

func TestLinesThatAreNotPossible(t *testing.T) {
	for _, d := range []impl.Desk{{}, deskOf("aab./b.../.c../...q", 5, 5), {Board: fullOf(1)}, {Board: fullOf(impl.MaxTile), Points: impl.MaxPoints, Count: impl.MaxDeeds}} {
		for i, line := range unknownLines() {
			c := impl.Console{Desk: d, Log: sampleLogs()[i%170]}
			checkExecuted(t, c, line, impl.Console{Desk: d, Log: logged(c.Log, line, "?")}, "?")
		}
	}
}

// badLines returns lines that are the Command of no valid record.
func badLines() []string {
	lines := []string{"", "\n", "sum\n", "\nsum", "sum\nsum", "su#m", "#", "sum#385", "@", "sum@", "@sum", "slide 0@4", "\tsum", "sum\r", "sum\x00", "sum\x7f", "\x80", "\xff", "sum\u00e9", "\u00a0", "slide\t0"}
	lines = append(lines, strings.Repeat("a", 161), strings.Repeat(" ", 161), "sum"+strings.Repeat(" ", 158), strings.Repeat("sum", 1<<20))
	for c := range 256 {
		if c < 32 || c > 126 || c == '#' || c == '@' {
			lines = append(lines, "sum"+string([]byte{byte(c)}), string([]byte{byte(c)}))
		}
	}
	return lines
}

// The checks come in their order: `no`, then `bad`, then `full`, then `?`.
func TestCommandsThatAreRefused(t *testing.T) {
	bad := badLines()
	lines := append(bad, "sum", "what", "slide 0", "put 1 1 1", "row 9")
	for i, c := range wrongConsoles() {
		for k := range 3 {
			checkExecuted(t, c, lines[(7*i+k)%len(lines)], c, "no")
		}
	}
	full := 0
	for i, l := range sampleLogs() {
		c := impl.Console{Desk: deskSamples()[i%len(deskSamples())], Log: l}
		for k := range 20 {
			checkExecuted(t, c, bad[(i*20+k)%len(bad)], c, "bad")
		}
		if l.Count == impl.MaxRecords {
			full++
			for _, line := range []string{"sum", "what", "slide 0", "put 1 1 1", "row 9", " ", strings.Repeat("a", 160), "form 0", "points"} {
				checkExecuted(t, c, line, c, "full")
			}
		}
	}
	if full < 5 {
		t.Errorf("only %d are full", full)
	}
}

// The last record that there may be is made, and the next one is not.
func TestALogThatIsNearlyFull(t *testing.T) {
	d := deskOf("aab.", 0, 0)
	c := impl.Console{Desk: d, Log: logOf(randomRecords(rand.New(rand.NewSource(126)), 59), 20)}
	next := impl.Console{Desk: deskOf("bb..", 4, 1), Log: logged(c.Log, "slide 0", "4")}
	checkExecuted(t, c, "slide 0", next, "4")
	checkExecuted(t, next, "slide 0", next, "full")
	synced := next
	synced.Log, _ = impl.SyncLog(next.Log)
	checkExecuted(t, synced, "slide 0", synced, "full")
}

// randomLine returns a line that is often a command of the table, and mostly possible.
func randomLine(source *rand.Rand) string {
	some := func(n int) int { return source.Intn(n) }
	lines := []string{
		fmt.Sprint("slide ", some(4)), fmt.Sprint("slide ", some(4)), fmt.Sprint("slide ", some(4)), fmt.Sprint("put ", some(4), " ", some(4), " ", 1+some(3)),
		fmt.Sprint("put ", some(4), " ", some(4), " ", 1+some(17)), fmt.Sprint("take ", some(4), " ", some(4)), fmt.Sprint("form ", some(8)), fmt.Sprint("snake ", some(8)),
		fmt.Sprint("row ", some(4)), fmt.Sprint("steps ", some(5)-1), fmt.Sprint("over ", some(4)), fmt.Sprint("room ", some(4)), fmt.Sprint("row ", some(6)-1),
	}
	reports := strings.Fields("board sum points moves pairs first forms distinct next highest trapped potential left snakes best")
	switch some(10) {
	case 0, 1, 2:
		return reports[some(len(reports))]
	case 3:
		return unknownLines()[some(len(unknownLines()))]
	}
	return lines[some(len(lines))]
}

// Promise 12, its first part, and the guarantee of the chapter.
func TestReplayingALogReproducesEveryReply(t *testing.T) {
	source := rand.New(rand.NewSource(127))
	told := map[string]int{}
	for i, d := range deskSamples() {
		if i%4 > 0 {
			continue
		}
		c, want := consoleOf(d), consoleOf(d)
		for range impl.MaxRecords {
			line := randomLine(source)
			desk, reply := plainAnswer(want.Desk, line)
			want = impl.Console{Desk: desk, Log: logged(want.Log, line, reply)}
			next, got := impl.ExecuteCommand(c, line)
			if got != reply || next != want {
				t.Fatalf("ExecuteCommand(%v, %q) = %v, %q, not %v, %q", c, line, next, got, want, reply)
			}
			c = next
			if reply != "?" {
				told[strings.Fields(line)[0]]++
			}
			if source.Intn(10) == 0 {
				c.Log, _ = impl.SyncLog(c.Log)
				want.Log = impl.Log{Durable: want.Log.Durable + want.Log.Pending, Count: want.Log.Count}
			}
			if c.Log.Count%10 == 0 {
				checkLogReplayed(t, d, c.Log, c.Log.Count, true)
			}
		}
		if !impl.IsValidConsole(c) || c.Log.Count != impl.MaxRecords {
			t.Errorf("%v behind its commands", c)
		}
		checkExecuted(t, c, "sum", c, "full")
		crashed, _ := impl.CrashLog(c.Log, source.Intn(len(c.Log.Pending)+1), source.Intn(2) == 0)
		left, _, ok := impl.RecoverLog(crashed)
		checkLogReplayed(t, d, left, left.Count, ok)
	}
	if len(told) != 24 {
		t.Errorf("%d commands have been told: %v", len(told), told)
	}
}

func checkLogReplayed(t *testing.T, d impl.Desk, l impl.Log, want int, fine bool) {
	t.Helper()
	if n, ok := impl.ReplayLog(d, l); ok != fine || n != want {
		t.Errorf("ReplayLog(%v, %v) = %d, %v, not %d, %v", d, l, n, ok, want, fine)
	}
}

func TestReplayLog(t *testing.T) {
	d := deskOf("aab.", 6, 9)
	lines := []string{"sum", "slide 0", "slide 0", "row 0", "what", "slide 0", "put 3 3 1", "points", "highest", "form 2", "board"}
	c, _ := run(consoleOf(d), lines...)
	records, _ := impl.LogRecords(c.Log)
	checkLogReplayed(t, d, c.Log, len(lines), true)
	checkLogReplayed(t, d, impl.Log{}, 0, true)
	for i, e := range records {
		for _, reply := range []string{"", "x", e.Reply + " ", " " + e.Reply, e.Reply + e.Reply, "no", "bad", "full"} {
			changed := slices.Clone(records)
			changed[i].Reply = reply
			for _, durable := range []int{0, i, len(records)} {
				checkLogReplayed(t, d, logOf(changed, durable), i, true)
			}
			changed[len(records)-1].Reply = "other"
			checkLogReplayed(t, d, logOf(changed, 0), i, true)
		}
	}
	// Other commands than those to which the replies have been given.
	checkLogReplayed(t, d, logOf([]impl.LogRecord{{Command: "sum", Reply: "8"}, {Command: "sum", Reply: "9"}}, 1), 1, true)
	checkLogReplayed(t, d, logOf([]impl.LogRecord{{Command: "slide 1", Reply: "6"}, {Command: "slide 0", Reply: "10"}}, 1), 0, true)
	// Another Desk.
	checkLogReplayed(t, deskOf("aab.", 7, 9), c.Log, 1, true)
	checkLogReplayed(t, deskOf("aabb", 6, 9), c.Log, 0, true)
	checkLogReplayed(t, deskOf(".aab", 6, 9), c.Log, len(lines), true)
	checkLogReplayed(t, deskOf("ab.b", 6, 9), c.Log, 0, true)
	checkLogReplayed(t, deskOf("aa../b...", 6, 9), c.Log, 2, true)
	checkLogReplayed(t, deskOf("aab.", 6, impl.MaxDeeds), c.Log, 1, true)
	checkLogReplayed(t, deskOf("aab.", 6, impl.MaxDeeds-2), c.Log, 6, true)
	for _, wrong := range wrongDesks() {
		checkLogReplayed(t, wrong, c.Log, 0, false)
		checkLogReplayed(t, wrong, impl.Log{}, 0, false)
	}
	for _, wrong := range wrongLogs() {
		checkLogReplayed(t, d, wrong, 0, false)
	}
}

func TestReplaysOfLogsOfSamples(t *testing.T) {
	source := rand.New(rand.NewSource(128))
	for i, l := range sampleLogs() {
		d := deskSamples()[source.Intn(len(deskSamples()))]
		records, _ := plainRead(l.Durable + l.Pending)
		now, first := d, len(records)
		for k, e := range records {
			next, reply := plainAnswer(now, e.Command)
			now = next
			// Some replies are made to be those that come.
			if i%2 == 0 && k < i%60 {
				records[k].Reply = reply
			}
			if records[k].Reply != reply {
				first = min(first, k)
			}
		}
		checkLogReplayed(t, d, logOf(records, len(records)/2), first, true)
	}
}

func checkScript(t *testing.T, c impl.Console, text string, want []string, fine bool) {
	t.Helper()
	if replies, ok := impl.RunScript(c, text); ok != fine || !slices.Equal(replies, want) {
		t.Errorf("RunScript(%v, %.300q) = %q, %v, not %q, %v", c, text, replies, ok, want, fine)
	}
}

func TestRunScript(t *testing.T) {
	c := consoleOf(deskOf("aab.", 0, 0))
	for _, s := range []struct{ text, replies string }{
		{"sum", "8"}, {"", "bad"}, {"\n", "bad,bad"}, {"sum\n", "8,bad"}, {"\nsum", "bad,8"}, {"sum\n\nsum", "8,bad,8"},
		{"slide 0\nrow 0\nslide 0\nslide 0\npoints", "4,2 2 0 0,12,?,12"}, {"sum\r\nsum", "bad,8"}, {"sum sum", "?"}, {"what\nmoves", "?,0 2 3"},
		{"form 1\nmoves\ntake 0 3\nmoves\nboard", "0 0 0 1,0 1 3,6,0 1 3,..../...a/...b/...."}, {"a@b\nput 3 3 1\n#\nsum", "bad,10,bad,10"},
		{strings.Repeat("slide 0\n", 2) + "points", "4,12,12"},
	} {
		checkScript(t, c, s.text, strings.Split(s.replies, ","), true)
	}
	for _, lines := range []int{29, 30, 31, 32, 60, 4000} {
		want := slices.Repeat([]string{"bad"}, lines)
		if lines > 30 {
			want = nil
		}
		checkScript(t, c, strings.Repeat("\n", lines-1), want, lines <= 30)
		sums := slices.Repeat([]string{"8"}, len(want))
		checkScript(t, c, strings.TrimSuffix(strings.Repeat("sum\n", lines), "\n"), sums, lines <= 30)
	}
	checkScript(t, c, strings.Repeat("a", 4000), []string{"bad"}, true)
	checkScript(t, c, strings.Repeat("a", 4001), nil, false)
	checkScript(t, c, "sum\n"+strings.Repeat("a", 3996), []string{"8", "bad"}, true)
	checkScript(t, c, "sum\n"+strings.Repeat("a", 3997), nil, false)
	checkScript(t, c, strings.Repeat("a", 1<<24), nil, false)
	for i, wrong := range wrongConsoles() {
		checkScript(t, wrong, []string{"sum", "", "slide 0\nsum", strings.Repeat("a", 4001), strings.Repeat("\n", 30)}[i%5], nil, false)
	}
}

// The log gets full in the middle of a script.
func TestAScriptThatFillsTheLog(t *testing.T) {
	for _, room := range []int{0, 1, 3, 30, 31} {
		c := impl.Console{Desk: deskOf("aab.", 0, 0), Log: logOf(slices.Repeat([]impl.LogRecord{{Command: "a"}}, 60-room), 9)}
		want := []string{}
		for i := range 30 {
			want = append(want, map[bool]string{true: "8", false: "full"}[i < room])
		}
		checkScript(t, c, strings.TrimSuffix(strings.Repeat("sum\n", 30), "\n"), want, true)
	}
}

func TestRunScriptOfSamples(t *testing.T) {
	source := rand.New(rand.NewSource(129))
	for i, d := range deskSamples() {
		if i%3 > 0 {
			continue
		}
		lines, want, now := []string{}, []string{}, d
		for range 1 + source.Intn(30) {
			lines = append(lines, randomLine(source))
			next, reply := plainAnswer(now, lines[len(lines)-1])
			want, now = append(want, reply), next
		}
		checkScript(t, consoleOf(d), strings.Join(lines, "\n"), want, true)
	}
}

// deskResults tells what the functions of the chapter return.
func deskResults(d impl.Desk, list []impl.Deed, e impl.LogRecord, l impl.Log, line string, i int) string {
	is, made := impl.IsDesk(d), deed(impl.DeedForm, i)
	if len(list) > 0 {
		made = list[0]
	}
	first, one := impl.NewDesk(d.Board)
	next, two := impl.DoDeed(d, made)
	end, many, three := impl.DoDeeds(d, list)
	points, four := impl.PointsLeft(d)
	text, five := impl.EncodeRecord(i%70, e)
	more, code := impl.AppendRecord(l, e)
	synced, six := impl.SyncLog(l)
	crashed, seven := impl.CrashLog(l, i, i%2 == 0)
	recovered, size, eight := impl.RecoverLog(crashed + text)
	records, nine := impl.LogRecords(l)
	c, ten := impl.NewConsole(d)
	c.Log = l
	after, reply := impl.ExecuteCommand(c, line)
	replies, eleven := impl.RunScript(c, line+"\nslide 0\nsum")
	index, twelve := impl.ReplayLog(d, l)
	return fmt.Sprint(is, first, one, next, two, end, many, three, points, four, impl.IsValidRecord(e), text, five, impl.IsValidLog(l), more, code, synced, six,
		crashed, seven, recovered, size, eight, records, nine, c, ten, impl.IsValidConsole(c), after, reply, replies, eleven, index, twelve)
}

// Promise 13.
func TestDeskFunctionsReturnTheSameForTheSame(t *testing.T) {
	source := rand.New(rand.NewSource(130))
	desks, logs := append(wrongDesks()[:100], deskSamples()...), append(wrongLogs(), sampleLogs()...)
	records, lines := append(wrongRecords(), randomRecords(source, 100)...), append(badLines(), unknownLines()...)
	for i, l := range logs {
		d, e, line := desks[i*31%len(desks)], records[i*17%len(records)], lines[i*13%len(lines)]
		if i%2 == 0 {
			line = randomLine(source)
		}
		list := someDeeds(source, i%5)
		kept := slices.Clone(list)
		first := deskResults(d, list, e, l, line, i)
		if again := deskResults(d, list, e, l, line, i); again != first || !slices.Equal(list, kept) {
			t.Errorf("%v, %v, %q, %v, %q: %s, then %s", d, kept, e, l, line, first, again)
		}
	}
}

func TestRecordsAndRepliesAreNewMemory(t *testing.T) {
	for _, l := range sampleLogs() {
		first, _ := impl.LogRecords(l)
		want := slices.Clone(first)
		for i := range first {
			first[i] = impl.LogRecord{}
		}
		checkLogRecords(t, l, want, true)
	}
	c := consoleOf(deskOf("aab.", 0, 0))
	for range 2 {
		replies, _ := impl.RunScript(c, "slide 0\nsum\nrow 0")
		if !slices.Equal(replies, []string{"4", "8", "2 2 0 0"}) {
			t.Errorf("%q", replies)
		}
		for i := range replies {
			replies[i] = "x"
		}
	}
}
