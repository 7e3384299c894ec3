package tests

import (
	"fmt"
	"math"
	"math/rand"
	"slices"
	"strings"
	"sync"
	"testing"

	"loop.example/g01194/impl"
)

func allRules() []int {
	return []int{impl.RuleDouble, impl.RuleNext, impl.RuleThree, impl.RuleAdd}
}

// plainWorths returns the worths of all tiles by a rule, the first one being that of 1.
func plainWorths(rule int) []int {
	return map[int][]int{
		impl.RuleDouble: {2, 4, 8, 16, 32, 64, 128, 256, 512, 1024, 2048, 4096, 8192, 16384, 32768, 65536, 131072},
		impl.RuleNext:   {1, 2, 3, 5, 8, 13, 21, 34, 55, 89, 144, 233, 377, 610, 987, 1597, 2584},
		impl.RuleThree:  {1, 2, 3, 6, 12, 24, 48, 96, 192, 384, 768, 1536, 3072, 6144, 12288, 24576, 49152},
		impl.RuleAdd:    {1, 2, 3, 4, 5, 6, 7, 8, 9, 10, 11, 12, 13, 14, 15, 16, 17},
	}[rule]
}

// plainMerge returns the tile to which two tiles merge, or 0. They do if a tile has the worth of
// both together, but two tiles 1 do not by the rules by which 1 and 2 are worth as much.
func plainMerge(rule int, s int, t int) int {
	if s == 1 && t == 1 && (rule == impl.RuleNext || rule == impl.RuleThree) {
		return 0
	}
	worths := plainWorths(rule)
	return slices.Index(worths, worths[s-1]+worths[t-1]) + 1
}

// plainSlideBy moves tile after tile, each one as far as it gets, and marks what has merged. It
// returns the Board behind the slide, and the number of mergers.
func plainSlideBy(b impl.Board, direction int, rule int) (impl.Board, int) {
	mergers := 0
	for i := range 4 {
		cells := lineCells(direction, i)
		at := func(k int) *int { return &b.Rows[cells[k][0]][cells[k][1]] }
		marked := [4]bool{}
		for from := range 4 {
			k := from
			for k > 0 && *at(k - 1) == 0 {
				*at(k - 1), *at(k) = *at(k), 0
				k--
			}
			if k == 0 || *at(k) == 0 || marked[k-1] {
				continue
			}
			if merged := plainMerge(rule, *at(k - 1), *at(k)); merged > 0 {
				*at(k - 1), *at(k) = merged, 0
				marked[k-1] = true
				mergers++
			}
		}
	}
	return b, mergers
}

func plainMovesBy(b impl.Board, rule int) []int {
	moves := []int{}
	for direction := range 4 {
		if slid, _ := plainSlideBy(b, direction, rule); slid != b {
			moves = append(moves, direction)
		}
	}
	return moves
}

// isPlainOver tells by the cells whether a Board is over by a rule.
func isPlainOver(b impl.Board, rule int) bool {
	if len(tilesOf(b)) == 0 {
		return true
	}
	return !slices.ContainsFunc(neighborsOf(b), func(p [2]int) bool {
		return p[0] == 0 || p[1] == 0 || plainMerge(rule, p[0], p[1]) > 0
	})
}

func plainSumBy(b impl.Board, rule int) int {
	sum := 0
	for _, tile := range tilesOf(b) {
		sum += plainWorths(rule)[tile-1]
	}
	return sum
}

func plainAgree(b impl.Board, direction int) []int {
	double, _ := plainSlideBy(b, direction, impl.RuleDouble)
	return slices.DeleteFunc(allRules(), func(rule int) bool {
		slid, _ := plainSlideBy(b, direction, rule)
		return slid != double
	})
}

func plainCommon(b impl.Board) []int {
	return slices.DeleteFunc([]int{left, up, right, down}, func(direction int) bool {
		return slices.ContainsFunc(allRules(), func(rule int) bool {
			return !slices.Contains(plainMovesBy(b, rule), direction)
		})
	})
}

func plainSettle(b impl.Board, direction int, rule int) (impl.Board, int) {
	slid, _ := plainSlideBy(b, direction, rule)
	if slid == b {
		return b, 0
	}
	last, slides := plainSettle(slid, direction, rule)
	return last, slides + 1
}

func plainMostMergers(b impl.Board, rule int) (int, int) {
	counts := []int{}
	for direction := range 4 {
		_, mergers := plainSlideBy(b, direction, rule)
		counts = append(counts, mergers)
	}
	most := slices.Max(counts)
	return most, slices.Index(counts, most)
}

// plainReach returns what can come out of some of at most 5 tiles: for each choice of them what
// all of them together can become, by what its two parts can.
func plainReach(rule int, tiles []int) []int {
	whole := make([]map[int]bool, 1<<len(tiles))
	reached := map[int]bool{}
	for choice := 1; choice < len(whole); choice++ {
		whole[choice] = map[int]bool{}
		for i, tile := range tiles {
			if choice == 1<<i {
				whole[choice][tile] = true
			}
		}
		for part := 1; part < choice; part++ {
			if part&^choice != 0 {
				continue
			}
			for s := range whole[part] {
				for t := range whole[choice&^part] {
					if merged := plainMerge(rule, s, t); merged > 0 {
						whole[choice][merged] = true
					}
				}
			}
		}
		for tile := range whole[choice] {
			reached[tile] = true
		}
	}
	return slices.DeleteFunc(everyTile(), func(tile int) bool { return !reached[tile] })
}

func everyTile() []int {
	tiles := []int{}
	for tile := 1; tile <= impl.MaxTile; tile++ {
		tiles = append(tiles, tile)
	}
	return tiles
}

func wrongRules() []int {
	return []int{0, -1, 5, 6, -2, -4, 8, 255, 256, 257, 260, 1 << 32, 1<<32 + 1, math.MaxInt, math.MinInt, math.MinInt + 1}
}

// wrongTiles are numbers that are none of a Board, and that of an empty cell.
func wrongTiles() []int { return append(wrongNumbers(), 0) }

func checkMergeOf(t *testing.T, rule int, s int, u int, want int, fine bool) {
	t.Helper()
	if merged, ok := impl.MergeOf(rule, s, u); ok != fine || merged != want {
		t.Errorf("MergeOf(%d, %d, %d) = %d, %v, not %d, %v", rule, s, u, merged, ok, want, fine)
	}
}

func checkWorthBy(t *testing.T, rule int, tile int, want int, fine bool) {
	t.Helper()
	if worth, ok := impl.WorthBy(rule, tile); ok != fine || worth != want {
		t.Errorf("WorthBy(%d, %d) = %d, %v, not %d, %v", rule, tile, worth, ok, want, fine)
	}
}

func checkSlideBy(t *testing.T, b impl.Board, direction int, rule int, want impl.Board, mergers int, fine bool) {
	t.Helper()
	if slid, made, ok := impl.SlideBy(b, direction, rule); ok != fine || slid != want || made != mergers {
		t.Errorf("SlideBy(%v, %d, %d) = %v, %d, %v, not %v, %d, %v", b, direction, rule, slid, made, ok, want, mergers, fine)
	}
}

func checkMovesBy(t *testing.T, b impl.Board, rule int, want []int, fine bool) {
	t.Helper()
	if moves, ok := impl.MovesBy(b, rule); ok != fine || !slices.Equal(moves, want) {
		t.Errorf("MovesBy(%v, %d) = %v, %v, not %v, %v", b, rule, moves, ok, want, fine)
	}
}

func checkOverBy(t *testing.T, b impl.Board, rule int, want bool, fine bool) {
	t.Helper()
	if over, ok := impl.IsOverBy(b, rule); ok != fine || over != want {
		t.Errorf("IsOverBy(%v, %d) = %v, %v, not %v, %v", b, rule, over, ok, want, fine)
	}
}

func checkSumBy(t *testing.T, b impl.Board, rule int, want int, fine bool) {
	t.Helper()
	if sum, ok := impl.SumBy(b, rule); ok != fine || sum != want {
		t.Errorf("SumBy(%v, %d) = %d, %v, not %d, %v", b, rule, sum, ok, want, fine)
	}
}

func checkAgree(t *testing.T, b impl.Board, direction int, want []int, fine bool) {
	t.Helper()
	if rules, ok := impl.RulesAgree(b, direction); ok != fine || !slices.Equal(rules, want) {
		t.Errorf("RulesAgree(%v, %d) = %v, %v, not %v, %v", b, direction, rules, ok, want, fine)
	}
}

func checkCommon(t *testing.T, b impl.Board, want []int, fine bool) {
	t.Helper()
	if moves, ok := impl.CommonMoves(b); ok != fine || !slices.Equal(moves, want) {
		t.Errorf("CommonMoves(%v) = %v, %v, not %v, %v", b, moves, ok, want, fine)
	}
}

func checkSettle(t *testing.T, b impl.Board, direction int, rule int, want impl.Board, slides int, fine bool) {
	t.Helper()
	if last, made, ok := impl.SettleBy(b, direction, rule); ok != fine || last != want || made != slides {
		t.Errorf("SettleBy(%v, %d, %d) = %v, %d, %v, not %v, %d, %v", b, direction, rule, last, made, ok, want, slides, fine)
	}
}

func checkMostMergers(t *testing.T, b impl.Board, rule int, want int, wantFirst int, fine bool) {
	t.Helper()
	if most, first, ok := impl.MostMergersBy(b, rule); ok != fine || most != want || first != wantFirst {
		t.Errorf("MostMergersBy(%v, %d) = %d, %d, %v, not %d, %d, %v", b, rule, most, first, ok, want, wantFirst, fine)
	}
}

func checkReach(t *testing.T, rule int, tiles []int, want []int, fine bool) {
	t.Helper()
	if reached, ok := impl.ReachRule(rule, tiles); ok != fine || !slices.Equal(reached, want) {
		t.Errorf("ReachRule(%d, %v) = %v, %v, not %v, %v", rule, tiles, reached, ok, want, fine)
	}
}

// ruleSamples holds Boards of all kinds, and many whose tiles merge by some rules only.
var ruleSamples = sync.OnceValue(func() []impl.Board {
	boards := sampleBoards()
	source := rand.New(rand.NewSource(101))
	for _, kind := range [][3]int{{3, 1, 4}, {100, 1, 4}, {100, 7, 11}, {4, 8, 9}, {100, 8, 10}, {3, 14, 17}, {100, 14, 17}, {100, 3, 6}} {
		for range 100 {
			boards = append(boards, randomBoard(source, kind[0], kind[1], kind[2]))
		}
	}
	for i := range 120 {
		boards = append(boards, boardOfFullLines(source, i%4, 1+i%3))
	}
	return boards
})

// boardOfFullLines returns a Board with full lines that begin at a side, and none beside them, so
// that one slide is a move by all rules.
func boardOfFullLines(source *rand.Rand, direction int, lines int) impl.Board {
	full, b := randomBoard(source, 100, 1, 17), impl.Board{}
	for i := range 4 {
		for k, cell := range lineCells(direction, i) {
			if k < lines {
				b.Rows[cell[0]][cell[1]] = max(full.Rows[cell[0]][cell[1]], 1)
			}
		}
	}
	return b
}

// reachLists returns lists of at most 5 tiles, all of those with at most two.
func reachLists() [][]int {
	lists := [][]int{{}}
	for _, s := range everyTile() {
		lists = append(lists, []int{s})
		for _, t := range everyTile() {
			lists = append(lists, []int{s, t})
		}
	}
	source := rand.New(rand.NewSource(102))
	for _, most := range []int{2, 3, 4, 6, 9, 17} {
		for i := range 300 {
			list := []int{}
			for range 3 + i%3 {
				list = append(list, 1+source.Intn(most))
			}
			lists = append(lists, list)
		}
	}
	for range 200 {
		list := []int{}
		for range 5 {
			list = append(list, 12+source.Intn(6))
		}
		lists = append(lists, list)
	}
	return lists
}

func TestMergeOf(t *testing.T) {
	for _, c := range []struct{ rule, s, u, want int }{
		{impl.RuleDouble, 1, 1, 2}, {impl.RuleDouble, 9, 9, 10}, {impl.RuleDouble, 16, 16, 17},
		{impl.RuleDouble, 17, 17, 0}, {impl.RuleDouble, 1, 2, 0}, {impl.RuleDouble, 16, 17, 0},
		{impl.RuleNext, 1, 2, 3}, {impl.RuleNext, 2, 3, 4}, {impl.RuleNext, 15, 16, 17},
		{impl.RuleNext, 16, 17, 0}, {impl.RuleNext, 1, 1, 0}, {impl.RuleNext, 1, 3, 0}, {impl.RuleNext, 1, 17, 0},
		{impl.RuleThree, 1, 2, 3}, {impl.RuleThree, 3, 3, 4}, {impl.RuleThree, 16, 16, 17},
		{impl.RuleThree, 1, 1, 0}, {impl.RuleThree, 2, 2, 0}, {impl.RuleThree, 2, 3, 0}, {impl.RuleThree, 1, 3, 0},
		{impl.RuleThree, 17, 17, 0}, {impl.RuleThree, 3, 4, 0},
		{impl.RuleAdd, 1, 1, 2}, {impl.RuleAdd, 1, 16, 17}, {impl.RuleAdd, 8, 9, 17}, {impl.RuleAdd, 3, 4, 7},
		{impl.RuleAdd, 9, 9, 0}, {impl.RuleAdd, 1, 17, 0}, {impl.RuleAdd, 2, 16, 0}, {impl.RuleAdd, 17, 17, 0},
	} {
		checkMergeOf(t, c.rule, c.s, c.u, c.want, c.want > 0)
		checkMergeOf(t, c.rule, c.u, c.s, c.want, c.want > 0)
	}
}

func TestMergeOfAndWorthByOfAllTiles(t *testing.T) {
	for _, rule := range allRules() {
		for _, s := range everyTile() {
			checkWorthBy(t, rule, s, plainWorths(rule)[s-1], true)
			for _, u := range everyTile() {
				want := plainMerge(rule, s, u)
				checkMergeOf(t, rule, s, u, want, want > 0)
			}
		}
	}
}

// Promise 10.
func TestTilesThatMergeHaveTogetherTheWorthOfWhatTheyBecome(t *testing.T) {
	for _, rule := range allRules() {
		pairs := 0
		for _, s := range everyTile() {
			for _, u := range everyTile() {
				merged, ok := impl.MergeOf(rule, s, u)
				if !ok {
					continue
				}
				pairs++
				one, _ := impl.WorthBy(rule, s)
				two, _ := impl.WorthBy(rule, u)
				if both, isTile := impl.WorthBy(rule, merged); !isTile || both != one+two || both == 0 {
					t.Errorf("rule %d: %d and %d, worth %d and %d, merge to %d, worth %d", rule, s, u, one, two, merged, both)
				}
			}
		}
		if want := map[int]int{impl.RuleDouble: 16, impl.RuleNext: 30, impl.RuleThree: 16, impl.RuleAdd: 136}[rule]; pairs != want {
			t.Errorf("rule %d: %d pairs merge, not %d", rule, pairs, want)
		}
	}
}

// pairsText writes each pair with letters, as a Board is written.
func pairsText(pairs [][2]int) string {
	text := []string{}
	for _, p := range pairs {
		text = append(text, string([]byte{byte('a' + p[0] - 1), byte('a' + p[1] - 1)}))
	}
	return strings.Join(text, " ")
}

func TestPairsBy(t *testing.T) {
	for rule, want := range map[int]string{
		impl.RuleDouble: "aa bb cc dd ee ff gg hh ii jj kk ll mm nn oo pp",
		impl.RuleNext:   "ab bc cd de ef fg gh hi ij jk kl lm mn no op",
		impl.RuleThree:  "ab cc dd ee ff gg hh ii jj kk ll mm nn oo pp",
		impl.RuleAdd: "aa ab ac ad ae af ag ah ai aj ak al am an ao ap bb bc bd be bf bg bh bi bj bk bl bm bn bo " +
			"cc cd ce cf cg ch ci cj ck cl cm cn dd de df dg dh di dj dk dl dm ee ef eg eh ei ej ek el " +
			"ff fg fh fi fj fk gg gh gi gj hh hi",
	} {
		if pairs, ok := impl.PairsBy(rule); !ok || pairsText(pairs) != want {
			t.Errorf("PairsBy(%d) = %s, %v, not %s", rule, pairsText(pairs), ok, want)
		}
	}
}

func TestPairsByAreThoseThatMerge(t *testing.T) {
	for _, rule := range allRules() {
		want := [][2]int{}
		for _, s := range everyTile() {
			for _, u := range everyTile()[s-1:] {
				if plainMerge(rule, s, u) > 0 {
					want = append(want, [2]int{s, u})
				}
			}
		}
		if pairs, ok := impl.PairsBy(rule); !ok || !slices.Equal(pairs, want) {
			t.Errorf("PairsBy(%d) = %v, %v, not %v", rule, pairs, ok, want)
		}
	}
}

func TestSlideByOfARow(t *testing.T) {
	for _, c := range []struct {
		rule             int
		row, left, right string
		mergers          int
	}{
		{impl.RuleDouble, "....", "....", "....", 0},
		{impl.RuleDouble, "aabb", "bc..", "..bc", 2},
		{impl.RuleDouble, "aaab", "bab.", ".abb", 1},
		{impl.RuleDouble, "a.ab", "bb..", "..bb", 1},
		{impl.RuleDouble, "abcd", "abcd", "abcd", 0},
		{impl.RuleDouble, "qqpp", "qqq.", ".qqq", 1},
		{impl.RuleNext, "....", "....", "....", 0},
		{impl.RuleNext, "ab..", "c...", "...c", 1},
		{impl.RuleNext, "b..a", "c...", "...c", 1},
		{impl.RuleNext, "abcd", "ce..", "..ce", 2},
		// What has come out of a merger does not merge again, though 3 and 2 or 4 would.
		{impl.RuleNext, "abb.", "cb..", "..cb", 1},
		{impl.RuleNext, "abd.", "cd..", "..cd", 1},
		{impl.RuleNext, "abc.", "cc..", "..ad", 1},
		{impl.RuleNext, "cba.", "da..", "..cc", 1},
		{impl.RuleNext, "aabb", "acb.", ".acb", 1},
		{impl.RuleNext, "abab", "cc..", "..cc", 2},
		{impl.RuleNext, "baab", "cc..", "..cc", 2},
		{impl.RuleNext, "aaaa", "aaaa", "aaaa", 0},
		{impl.RuleNext, "ac..", "ac..", "..ac", 0},
		{impl.RuleNext, "opop", "qq..", "..qq", 2},
		{impl.RuleNext, "opq.", "qq..", "..qq", 1},
		{impl.RuleNext, "pqqp", "pqqp", "pqqp", 0},
		{impl.RuleThree, "....", "....", "....", 0},
		{impl.RuleThree, "ab..", "c...", "...c", 1},
		{impl.RuleThree, ".ba.", "c...", "...c", 1},
		{impl.RuleThree, "aabb", "acb.", ".acb", 1},
		{impl.RuleThree, "aacc", "aad.", ".aad", 1},
		{impl.RuleThree, "abcc", "cd..", "..cd", 2},
		{impl.RuleThree, "abc.", "cc..", "..cc", 1},
		{impl.RuleThree, "ccc.", "dc..", "..cd", 1},
		{impl.RuleThree, "ccd.", "dd..", "..dd", 1},
		{impl.RuleThree, "aaaa", "aaaa", "aaaa", 0},
		{impl.RuleThree, "bbbb", "bbbb", "bbbb", 0},
		{impl.RuleThree, "bcbc", "bcbc", "bcbc", 0},
		{impl.RuleThree, "qqpp", "qqq.", ".qqq", 1},
		{impl.RuleAdd, "....", "....", "....", 0},
		{impl.RuleAdd, "abcd", "cg..", "..cg", 2},
		{impl.RuleAdd, "abc.", "cc..", "..ae", 1},
		{impl.RuleAdd, "aaaa", "bb..", "..bb", 2},
		{impl.RuleAdd, "ap..", "q...", "...q", 1},
		{impl.RuleAdd, "aq..", "aq..", "..aq", 0},
		{impl.RuleAdd, "ih..", "q...", "...q", 1},
		{impl.RuleAdd, "ii..", "ii..", "..ii", 0},
		{impl.RuleAdd, "iha.", "qa..", "..ii", 1},
		{impl.RuleAdd, "iiaa", "ija.", ".iib", 1},
		{impl.RuleAdd, "qqaa", "qqb.", ".qqb", 1},
		{impl.RuleAdd, "hhhh", "pp..", "..pp", 2},
		{impl.RuleAdd, "iiii", "iiii", "iiii", 0},
	} {
		b := boardOf(c.row)
		checkSlideBy(t, b, left, c.rule, boardOf(c.left), c.mergers, true)
		checkSlideBy(t, b, right, c.rule, boardOf(c.right), c.mergers, true)
	}
}

func TestSlideByOfColumns(t *testing.T) {
	for _, c := range []struct {
		rule            int
		board, up, down string
		mergers         int
	}{
		{impl.RuleDouble, "aab./abc./.bc./abc.", "bab./acd./.bc./....", "..../.ab./abc./bcd.", 3},
		{impl.RuleNext, "abc./bbd./c..a/.d.b", "cbec/cb../.d../....", "..../.b../ab../ddec", 3},
		{impl.RuleThree, "acbq/ac.p/bcap/.dc.", "adcq/cccq/.d../....", "..../.c../adcq/cdcq", 4},
		{impl.RuleAdd, "ahq./biad/chp./di.n", "cqqd/gqqn/..../....", "..../..../cqqd/gqqn", 5},
	} {
		checkSlideBy(t, boardOf(c.board), up, c.rule, boardOf(c.up), c.mergers, true)
		checkSlideBy(t, boardOf(c.board), down, c.rule, boardOf(c.down), c.mergers, true)
	}
}

func TestSlideByRuleDoubleIsThatOfChapter2(t *testing.T) {
	for _, b := range ruleSamples() {
		for direction := range 4 {
			slid, _, mergers := plainSlide(b, direction)
			checkSlideBy(t, b, direction, impl.RuleDouble, slid, mergers, true)
		}
		checkMovesBy(t, b, impl.RuleDouble, plainMoves(b), true)
		checkSumBy(t, b, impl.RuleDouble, plainSum(b), true)
		over, ok := impl.IsOver(b)
		checkOverBy(t, b, impl.RuleDouble, over, ok)
	}
}

func TestSlideByMovesByAndIsOverBy(t *testing.T) {
	for _, rule := range allRules() {
		over, stuck, merged := 0, 0, [9]int{}
		for _, b := range ruleSamples() {
			for direction := range 4 {
				slid, mergers := plainSlideBy(b, direction, rule)
				checkSlideBy(t, b, direction, rule, slid, mergers, true)
				merged[mergers]++
			}
			moves := plainMovesBy(b, rule)
			checkMovesBy(t, b, rule, moves, true)
			isOver := isPlainOver(b, rule)
			checkOverBy(t, b, rule, isOver, true)
			if isOver != (len(moves) == 0) {
				t.Errorf("rule %d: %v is over: %v, with the moves %v", rule, b, isOver, moves)
			}
			if isOver {
				over++
			}
			if len(moves) == 1 || len(moves) == 3 {
				stuck++
			}
		}
		if over < 50 || stuck < 50 || slices.Min(merged[:]) < 4 {
			t.Errorf("rule %d: only %d are over, %d have few moves, numbers of mergers: %v", rule, over, stuck, merged)
		}
	}
}

// letters writes directions.
func letters(directions []int) string {
	text := ""
	for _, direction := range directions {
		text += "lurd"[direction : direction+1]
	}
	return text
}

// rulesTold tells of each rule the moves, the most mergers with their first direction, and the
// sum, then of each direction the rules that agree, and then the common moves.
func rulesTold(b impl.Board) string {
	parts := []string{}
	for _, rule := range allRules() {
		moves, _ := impl.MovesBy(b, rule)
		over, _ := impl.IsOverBy(b, rule)
		most, first, _ := impl.MostMergersBy(b, rule)
		sum, _ := impl.SumBy(b, rule)
		if over {
			parts = append(parts, "over")
		}
		parts = append(parts, fmt.Sprintf("%s %d%c %d,", letters(moves), most, "lurd"[first], sum))
	}
	for direction := range 4 {
		rules, _ := impl.RulesAgree(b, direction)
		parts = append(parts, strings.ReplaceAll(strings.Trim(fmt.Sprint(rules), "[]"), " ", ""))
	}
	moves, _ := impl.CommonMoves(b)
	return strings.Join(append(parts, letters(moves)), " ")
}

func TestRulesOfKnownBoards(t *testing.T) {
	for text, want := range map[string]string{
		emptyText: "over  0l 0, over  0l 0, over  0l 0, over  0l 0, 1234 1234 1234 1234 ",
		"aabb":    "lrd 2l 12, lrd 1l 6, lrd 1l 6, lrd 2l 6, 1 1234 1 1234 lrd",
		"qa..":    "rd 0l 131074, rd 0l 2585, rd 0l 49153, rd 0l 18, 1234 1234 1234 1234 rd",
		"pq..":    "rd 0l 196608, rd 0l 4181, rd 0l 73728, rd 0l 33, 1234 1234 1234 1234 rd",
		// The slide up is a move by all rules but RuleDouble.
		"a.../b.../..../....": "rd 0l 6, urd 1u 3, urd 1u 3, urd 1u 3, 1234 1 1234 1 rd",
		"cc../cc../..../....": "lurd 2l 32, rd 0l 12, lurd 2l 12, lurd 2l 12, 13 13 13 13 rd",
		"ph../.i../..../....": "lrd 0l 66304, lurd 1u 1686, lrd 0l 24864, lurd 1u 33, 1234 13 1234 13 lrd",
		// Full Boards.
		"aaaa/aaaa/aaaa/aaaa": "lurd 8l 32, over  0l 16, over  0l 16, lurd 8l 16, 14 14 14 14 ",
		"bbbb/bbbb/bbbb/bbbb": "lurd 8l 64, over  0l 32, over  0l 32, lurd 8l 32, 1 1 1 1 ",
		"iiii/iiii/iiii/iiii": "lurd 8l 8192, over  0l 880, lurd 8l 3072, over  0l 144, 13 13 13 13 ",
		"qqqq/qqqq/qqqq/qqqq": "over  0l 2097152, over  0l 41344, over  0l 786432, over  0l 272, 1234 1234 1234 1234 ",
		"abab/baba/abab/baba": "over  0l 48, lurd 8l 24, lurd 8l 24, lurd 8l 24, 1 1 1 1 ",
		"acac/caca/acac/caca": "over  0l 80, over  0l 32, over  0l 32, lurd 8l 32, 123 123 123 123 ",
		"ijij/jiji/ijij/jiji": "over  0l 12288, lurd 8l 1152, over  0l 4608, over  0l 152, 134 134 134 134 ",
		"abcd/bcda/cdab/dabc": "over  0l 120, lurd 6l 44, lurd 3l 48, lurd 8l 40, 1 1 1 1 ",
	} {
		if told := rulesTold(boardOf(text)); told != want {
			t.Errorf("%s: %s, not %s", text, told, want)
		}
	}
}

func TestSumByRulesAgreeCommonMovesAndMostMergersBy(t *testing.T) {
	agreeing, common, firsts := map[string]int{}, [5]int{}, [4]int{}
	for _, b := range ruleSamples() {
		for direction := range 4 {
			rules := plainAgree(b, direction)
			checkAgree(t, b, direction, rules, true)
			agreeing[fmt.Sprint(rules)]++
		}
		moves := plainCommon(b)
		checkCommon(t, b, moves, true)
		common[len(moves)]++
		for _, rule := range allRules() {
			checkSumBy(t, b, rule, plainSumBy(b, rule), true)
			most, first := plainMostMergers(b, rule)
			checkMostMergers(t, b, rule, most, first, true)
			firsts[first]++
		}
	}
	// No Board agrees by RuleNext but not by RuleThree.
	if len(agreeing) != 6 || slices.Min(common[:]) < 20 || firsts[left] < 500 || firsts[up] < 500 {
		t.Errorf("rules that agree: %v, common moves: %v, first directions: %v", agreeing, common, firsts)
	}
}

func TestSettleByOfARow(t *testing.T) {
	for _, c := range []struct {
		rule       int
		row, left  string
		slides     int
		right      string
		slidesBack int
	}{
		{impl.RuleDouble, "....", "....", 0, "....", 0},
		{impl.RuleDouble, "abcd", "abcd", 0, "abcd", 0},
		{impl.RuleDouble, "qqqq", "qqqq", 0, "qqqq", 0},
		{impl.RuleDouble, "..qq", "qq..", 1, "..qq", 0},
		{impl.RuleDouble, "aabd", "cd..", 2, "..cd", 2},
		{impl.RuleDouble, "aabc", "d...", 3, "...d", 3},
		{impl.RuleDouble, ".aab", "c...", 2, "...c", 2},
		{impl.RuleNext, "....", "....", 0, "....", 0},
		{impl.RuleNext, "aaaa", "aaaa", 0, "aaaa", 0},
		{impl.RuleNext, "abcd", "ce..", 1, "..ce", 1},
		{impl.RuleNext, "abca", "cca.", 1, ".ada", 1},
		{impl.RuleNext, "abbc", "e...", 2, "...e", 2},
		{impl.RuleNext, "badf", "g...", 3, "...g", 3},
		{impl.RuleThree, "....", "....", 0, "....", 0},
		{impl.RuleThree, "bbbb", "bbbb", 0, "bbbb", 0},
		{impl.RuleThree, "cccc", "e...", 2, "...e", 2},
		{impl.RuleThree, "abcd", "e...", 3, "...e", 3},
		{impl.RuleAdd, "....", "....", 0, "....", 0},
		{impl.RuleAdd, "iiii", "iiii", 0, "iiii", 0},
		{impl.RuleAdd, "pq..", "pq..", 0, "..pq", 1},
		{impl.RuleAdd, "hhhh", "pp..", 1, "..pp", 1},
		{impl.RuleAdd, "abcd", "j...", 2, "...j", 2},
		{impl.RuleAdd, "aabp", "dp..", 2, "..dp", 2},
	} {
		b := boardOf(c.row)
		checkSettle(t, b, left, c.rule, boardOf(c.left), c.slides, true)
		checkSettle(t, b, right, c.rule, boardOf(c.right), c.slidesBack, true)
	}
}

func TestSettleBy(t *testing.T) {
	counts := map[int]*[4]int{}
	for _, rule := range allRules() {
		counts[rule] = &[4]int{}
		for _, b := range ruleSamples() {
			for direction := range 4 {
				last, slides := plainSettle(b, direction, rule)
				checkSettle(t, b, direction, rule, last, slides, true)
				counts[rule][slides]++
			}
		}
	}
	// By RuleAdd no line has more than two slides.
	for _, rule := range allRules() {
		if few := slices.Min(counts[rule][:3]); few < 20 || rule != impl.RuleAdd && counts[rule][3] < 20 {
			t.Errorf("rule %d: numbers of slides: %v", rule, *counts[rule])
		}
	}
}

func TestASettledBoardDoesNotSlideOn(t *testing.T) {
	for _, b := range ruleSamples() {
		for _, rule := range allRules() {
			for direction := range 4 {
				last, slides, _ := impl.SettleBy(b, direction, rule)
				moves, _ := impl.MovesBy(last, rule)
				sum, _ := impl.SumBy(last, rule)
				if slices.Contains(moves, direction) || sum != plainSumBy(b, rule) {
					t.Errorf("rule %d: %v slides to %d as far as %v", rule, b, direction, last)
				}
				checkSettle(t, last, direction, rule, last, 0, true)
				if moved := slices.Contains(plainMovesBy(b, rule), direction); moved != (slides > 0) {
					t.Errorf("rule %d: %v makes %d slides to %d", rule, b, slides, direction)
				}
			}
		}
	}
}

func TestReachRule(t *testing.T) {
	for _, c := range []struct {
		rule        int
		tiles, want []int
	}{
		{impl.RuleDouble, []int{17}, []int{17}},
		{impl.RuleDouble, []int{1, 1, 1}, []int{1, 2}},
		{impl.RuleDouble, []int{1, 1, 1, 1, 1}, []int{1, 2, 3}},
		{impl.RuleDouble, []int{1, 1, 2, 3, 4}, []int{1, 2, 3, 4, 5}},
		{impl.RuleDouble, []int{4, 1, 3, 1, 2}, []int{1, 2, 3, 4, 5}},
		{impl.RuleDouble, []int{1, 2, 3, 4, 5}, []int{1, 2, 3, 4, 5}},
		{impl.RuleDouble, []int{16, 16, 17}, []int{16, 17}},
		{impl.RuleDouble, []int{17, 17}, []int{17}},
		{impl.RuleNext, []int{1, 1}, []int{1}},
		{impl.RuleNext, []int{3, 2, 1}, []int{1, 2, 3, 4}},
		{impl.RuleNext, []int{1, 2, 4}, []int{1, 2, 3, 4, 5}},
		{impl.RuleNext, []int{2, 1, 2}, []int{1, 2, 3, 4}},
		{impl.RuleNext, []int{1, 2, 1, 2, 2}, []int{1, 2, 3, 4, 5}},
		{impl.RuleNext, []int{5, 5, 5, 5, 5}, []int{5}},
		{impl.RuleNext, []int{15, 16}, []int{15, 16, 17}},
		{impl.RuleNext, []int{17, 16}, []int{16, 17}},
		{impl.RuleThree, []int{1, 1}, []int{1}},
		{impl.RuleThree, []int{2, 2}, []int{2}},
		{impl.RuleThree, []int{1, 2, 3}, []int{1, 2, 3, 4}},
		{impl.RuleThree, []int{1, 1, 2, 2}, []int{1, 2, 3, 4}},
		{impl.RuleThree, []int{4, 2, 2, 1, 1}, []int{1, 2, 3, 4, 5}},
		{impl.RuleThree, []int{16, 16}, []int{16, 17}},
		{impl.RuleAdd, []int{1, 1, 1, 1, 1}, []int{1, 2, 3, 4, 5}},
		{impl.RuleAdd, []int{8, 4, 2, 1}, []int{1, 2, 3, 4, 5, 6, 7, 8, 9, 10, 11, 12, 13, 14, 15}},
		{impl.RuleAdd, []int{16, 1, 2, 4, 8}, everyTile()},
		{impl.RuleAdd, []int{3, 5, 9}, []int{3, 5, 8, 9, 12, 14, 17}},
		{impl.RuleAdd, []int{9, 8}, []int{8, 9, 17}},
		{impl.RuleAdd, []int{9, 9}, []int{9}},
		{impl.RuleAdd, []int{1, 17}, []int{1, 17}},
	} {
		checkReach(t, c.rule, c.tiles, c.want, true)
	}
	for _, rule := range allRules() {
		checkReach(t, rule, nil, []int{}, true)
		checkReach(t, rule, []int{}, []int{}, true)
	}
}

func TestReachRuleOfManyLists(t *testing.T) {
	for _, rule := range allRules() {
		more := 0
		for _, list := range reachLists() {
			want := plainReach(rule, list)
			checkReach(t, rule, list, want, true)
			if len(want) > 0 && !slices.Contains(list, want[len(want)-1]) {
				more++
			}
		}
		if more < 50 {
			t.Errorf("rule %d: more tiles come out of only %d lists", rule, more)
		}
	}
}

// Promise 10, for tiles that come out of mergers one after the other.
func TestWhatIsReachedHasTheWorthOfSomeTilesOfTheList(t *testing.T) {
	for _, rule := range allRules() {
		for _, list := range reachLists() {
			sums := map[int]bool{0: true}
			for _, tile := range list {
				next := map[int]bool{}
				for sum := range sums {
					next[sum], next[sum+plainWorths(rule)[tile-1]] = true, true
				}
				sums = next
			}
			reached, _ := impl.ReachRule(rule, list)
			for _, tile := range everyTile() {
				isIn := slices.Contains(reached, tile)
				if isIn && !sums[plainWorths(rule)[tile-1]] || !isIn && slices.Contains(list, tile) || rule == impl.RuleAdd && isIn != sums[tile] {
					t.Errorf("ReachRule(%d, %v) has %d: %v", rule, list, tile, isIn)
				}
			}
		}
	}
}

func TestOtherRulesKeepTheGuarantee(t *testing.T) {
	merged, packed := 0, 0
	for _, b := range ruleSamples() {
		for direction := range 4 {
			for _, rule := range allRules() {
				before, _ := impl.SumBy(b, rule)
				slid, mergers, _ := impl.SlideBy(b, direction, rule)
				if behind, ok := impl.SumBy(slid, rule); !ok || behind != before {
					t.Errorf("rule %d: the sum of %v is %d, but %d behind %d", rule, b, before, behind, direction)
				}
				if len(tilesOf(slid)) != len(tilesOf(b))-mergers {
					t.Errorf("rule %d: %v has %d tiles behind %d with %d mergers", rule, b, len(tilesOf(slid)), direction, mergers)
				}
				merged += mergers
			}
			if rules, ok := impl.RulesAgree(b, direction); !ok || !slices.Contains(rules, impl.RuleDouble) {
				t.Errorf("RulesAgree(%v, %d) = %v, %v", b, direction, rules, ok)
			}
			slid, _, _ := impl.SlideBy(b, direction, impl.RuleAdd)
			for i := range 4 {
				if hasSmallSum(plainLine(b, direction, i)) {
					packed++
					if line := plainLine(slid, direction, i); line[2] != 0 || line[3] != 0 {
						t.Errorf("by RuleAdd, %v has the line %v behind %d", b, line, direction)
					}
				}
			}
		}
	}
	if merged < 1000 || packed < 1000 {
		t.Errorf("only %d mergers, and %d lines with a small sum", merged, packed)
	}
}

// hasSmallSum tells whether a line has more than two tiles with a sum of at most MaxTile.
func hasSmallSum(line [4]int) bool {
	tiles, sum := 0, 0
	for _, tile := range line {
		sum += tile
		if tile > 0 {
			tiles++
		}
	}
	return tiles > 2 && sum <= impl.MaxTile
}

func TestSlidesByRulesGoWithForms(t *testing.T) {
	for i, b := range ruleSamples() {
		if i%5 > 0 {
			continue
		}
		for k := range 8 {
			form, _ := impl.FormBoard(b, k)
			for direction := range 4 {
				side, _ := impl.FormSide(k, direction)
				for _, rule := range allRules() {
					slid, mergers, _ := impl.SlideBy(b, direction, rule)
					formSlid, _ := impl.FormBoard(slid, k)
					checkSlideBy(t, form, side, rule, formSlid, mergers, true)
					last, slides, _ := impl.SettleBy(b, direction, rule)
					formLast, _ := impl.FormBoard(last, k)
					checkSettle(t, form, side, rule, formLast, slides, true)
				}
				rules, _ := impl.RulesAgree(b, direction)
				checkAgree(t, form, side, rules, true)
			}
		}
	}
}

// Slides to both sides pair tiles from the ends of a line on, so none makes more mergers.
func TestOppositeSlidesByRulesMakeAsManyMergers(t *testing.T) {
	for _, b := range ruleSamples() {
		for _, rule := range allRules() {
			for _, direction := range []int{left, up} {
				_, one, _ := impl.SlideBy(b, direction, rule)
				_, two, _ := impl.SlideBy(b, direction+2, rule)
				if one != two {
					t.Errorf("rule %d: %v makes %d mergers to %d, and %d to the other side", rule, b, one, direction, two)
				}
			}
		}
	}
}

func TestWrongRulesAreRefused(t *testing.T) {
	for _, rule := range wrongRules() {
		for _, s := range everyTile() {
			checkWorthBy(t, rule, s, 0, false)
			for _, u := range everyTile() {
				checkMergeOf(t, rule, s, u, 0, false)
			}
		}
		if pairs, ok := impl.PairsBy(rule); ok || len(pairs) > 0 {
			t.Errorf("PairsBy(%d) = %v, %v", rule, pairs, ok)
		}
		for _, b := range goodBoards() {
			checkRefusedBy(t, b, left, rule)
			for direction := range 4 {
				checkSlideRefusedBy(t, b, direction, rule)
			}
		}
		for _, list := range [][]int{nil, {}, {1}, {1, 2}, {1, 1, 2, 3, 4}, {17, 17, 17, 17, 17}} {
			checkReach(t, rule, list, []int{}, false)
		}
	}
}

func checkSlideRefusedBy(t *testing.T, b impl.Board, direction int, rule int) {
	t.Helper()
	checkSlideBy(t, b, direction, rule, impl.Board{}, 0, false)
	checkSettle(t, b, direction, rule, impl.Board{}, 0, false)
}

// checkRefusedBy checks that all functions of a Board and a rule fail.
func checkRefusedBy(t *testing.T, b impl.Board, direction int, rule int) {
	t.Helper()
	checkSlideRefusedBy(t, b, direction, rule)
	checkMovesBy(t, b, rule, []int{}, false)
	checkOverBy(t, b, rule, false, false)
	checkSumBy(t, b, rule, 0, false)
	checkMostMergers(t, b, rule, 0, 0, false)
}

func TestWrongBoardsAreRefusedByRules(t *testing.T) {
	for _, b := range wrongBoards() {
		for direction := range 4 {
			for _, rule := range append(allRules(), 0, 5) {
				checkRefusedBy(t, b, direction, rule)
			}
			checkAgree(t, b, direction, []int{}, false)
		}
		checkCommon(t, b, []int{}, false)
	}
}

func TestWrongDirectionsAreRefusedByRules(t *testing.T) {
	for _, b := range append(goodBoards(), impl.Board{}, fullOf(17)) {
		for _, direction := range wrongDirections() {
			for _, rule := range append(allRules(), 0, 5) {
				checkSlideRefusedBy(t, b, direction, rule)
			}
			checkAgree(t, b, direction, []int{}, false)
		}
	}
}

func TestWrongTilesAreRefusedByRules(t *testing.T) {
	for _, rule := range allRules() {
		for _, wrong := range wrongTiles() {
			checkWorthBy(t, rule, wrong, 0, false)
			checkMergeOf(t, rule, wrong, wrong, 0, false)
			for _, tile := range everyTile() {
				checkMergeOf(t, rule, wrong, tile, 0, false)
				checkMergeOf(t, rule, tile, wrong, 0, false)
			}
			for _, list := range [][]int{{wrong}, {wrong, 1}, {1, wrong}, {1, 2, wrong, 4, 5}, {wrong, 1, 1, 1, 1}, {1, 1, 1, 1, wrong}} {
				checkReach(t, rule, list, []int{}, false)
			}
		}
	}
}

func TestLongListsAreRefusedByRules(t *testing.T) {
	for _, rule := range allRules() {
		checkReach(t, rule, []int{1, 1, 1, 1, 1, 1}, []int{}, false)
		checkReach(t, rule, []int{1, 2, 3, 4, 5, 6}, []int{}, false)
		checkReach(t, rule, everyTile(), []int{}, false)
		checkReach(t, rule, slices.Repeat([]int{1}, 1000), []int{}, false)
		checkReach(t, rule, slices.Repeat([]int{0}, 6), []int{}, false)
	}
}

// ruleResults tells what the functions of a Board, a direction and a rule return.
func ruleResults(b impl.Board, direction int, rule int) string {
	slid, mergers, one := impl.SlideBy(b, direction, rule)
	moves, two := impl.MovesBy(b, rule)
	over, three := impl.IsOverBy(b, rule)
	sum, four := impl.SumBy(b, rule)
	rules, five := impl.RulesAgree(b, direction)
	common, six := impl.CommonMoves(b)
	last, slides, seven := impl.SettleBy(b, direction, rule)
	most, first, eight := impl.MostMergersBy(b, rule)
	return fmt.Sprint(slid, mergers, one, moves, two, over, three, sum, four, rules, five, common, six, last, slides, seven, most, first, eight)
}

// tileResults tells what the functions of a rule and a list of tiles return.
func tileResults(rule int, list []int) string {
	pairs, one := impl.PairsBy(rule)
	reached, two := impl.ReachRule(rule, list)
	told := fmt.Sprint(pairs, one, reached, two)
	for i, tile := range list {
		worth, three := impl.WorthBy(rule, tile)
		merged, four := impl.MergeOf(rule, tile, list[i/2])
		told += fmt.Sprint(worth, three, merged, four)
	}
	return told
}

// Promise 13.
func TestRuleFunctionsReturnTheSameForTheSame(t *testing.T) {
	for i, b := range append(ruleSamples(), wrongBoards()...) {
		kept, direction, rule := b, i%7-1, i%6
		first := ruleResults(b, direction, rule)
		if again := ruleResults(b, direction, rule); again != first || b != kept {
			t.Errorf("%v, %d, %d: %s, then %s", b, direction, rule, first, again)
		}
	}
	for i, list := range append(reachLists(), []int{0, 1}, []int{18}, []int{1, 2, 3, 4, 5, 6}) {
		// What is behind the end of a list is not to be changed either.
		room := append(slices.Clone(list), -7, -8, -9)
		kept, rule := slices.Clone(room), i%6
		first := tileResults(rule, room[:len(list)])
		if again := tileResults(rule, room[:len(list)]); again != first || !slices.Equal(room, kept) {
			t.Errorf("%d, %v: %s, then %s", rule, list, first, again)
		}
	}
}

func TestListsOfRulesAreNewMemory(t *testing.T) {
	b := boardOf("aabb")
	for _, rule := range allRules() {
		want, _ := impl.PairsBy(rule)
		pairs, _ := impl.PairsBy(rule)
		clear(pairs)
		if again, _ := impl.PairsBy(rule); !slices.Equal(again, want) {
			t.Errorf("PairsBy(%d) = %v, not %v", rule, again, want)
		}
		moves, _ := impl.MovesBy(b, rule)
		clear(moves)
		checkMovesBy(t, b, rule, []int{left, right, down}, true)
		for _, list := range [][]int{{5}, {1, 3}, {3, 1, 2}, {17, 17}} {
			kept := slices.Clone(list)
			reached, _ := impl.ReachRule(rule, list)
			clear(reached[:cap(reached)])
			checkReach(t, rule, list, plainReach(rule, kept), true)
		}
	}
	rules, _ := impl.RulesAgree(b, up)
	clear(rules)
	checkAgree(t, b, up, allRules(), true)
	common, _ := impl.CommonMoves(b)
	clear(common)
	checkCommon(t, b, []int{left, right, down}, true)
}
