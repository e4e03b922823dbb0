package tests

import (
	"fmt"
	"math"
	"regexp"
	"strings"
	"testing"

	"loop.example/g01294/impl"
)

func TestStripExample(t *testing.T) {
	s := "?1?1?"
	checkCases(t, []boardCase{
		{"CountStrip", two(impl.CountStrip(s)), "2 true"},
		{"FirstStrip", two(impl.FirstStrip(s)), "*...* true"},
		{"LastStrip", two(impl.LastStrip(s)), "..*.. true"},
		{"SureStrip", two(impl.SureStrip(s)), "?.?.? true"},
		{"SureStrip ?1", two(impl.SureStrip("?1")), "*. true"},
		{"CountStrip ????", two(impl.CountStrip("????")), "16 true"},
		{"StripByMines ????", two(impl.StripByMines("????")), "[1 4 6 4 1] true"},
		{"CountLists 3", two(impl.CountLists(3)), "6 true"},
		{"HideStrip .*. and none", two(impl.HideStrip(".*.", nil)), "1?1 true"},
	})
}

// TestOrdinaryStrips: a list fits if it has just one mine beside the open cell, whatever it has at the ends.
func TestOrdinaryStrips(t *testing.T) {
	s, b := "??1??", "*..*."
	checkCases(t, []boardCase{
		{"IsStrip", told(impl.IsStrip(s)), "true"},
		{"CountStrip", two(impl.CountStrip(s)), "8 true"},
		{"CountStripMines", two(impl.CountStripMines(s, 2)), "4 true"},
		{"StripByMines", two(impl.StripByMines(s)), "[0 2 4 2 0 0] true"},
		{"CountStripAt", two(impl.CountStripAt(s, 1)), "4 true"},
		{"CountStripAt an open cell", two(impl.CountStripAt(s, 2)), "0 true"},
		{"FirstStrip", two(impl.FirstStrip(s)), "**..* true"},
		{"LastStrip", two(impl.LastStrip(s)), "...*. true"},
		{"StripOfRank", two(impl.StripOfRank(s, 1)), "**... true"},
		{"StripOfRank of another", two(impl.StripOfRank(s, 3)), "*..*. true"},
		{"RankOfStrip", two(impl.RankOfStrip(s, b)), "3 true"},
		{"RankOfStrip of one that does not fit", two(impl.RankOfStrip(s, "*...*")), "0 false"},
		{"RankOfStrip of one with a mine in an open cell", two(impl.RankOfStrip(s, "*.*..")), "0 false"},
		{"SureStrip", two(impl.SureStrip(s)), "??.?? true"},
		{"DoesFitStrip", two(impl.DoesFitStrip(s, b)), "true true"},
		{"DoesFitStrip of too many mines", two(impl.DoesFitStrip(s, ".*.*.")), "false true"},
		{"DoesFitStrip of a mine in an open cell", two(impl.DoesFitStrip(s, ".**..")), "false true"},
		{"BackStrip", two(impl.BackStrip("?01?2")), "2?10? true"},
		{"CountStripSums", two(impl.CountStripSums(5, 2)), "12 true"},
		{"CountLists", two(impl.CountLists(5)), "28 true"},
		{"HideStrip", two(impl.HideStrip("*..*..", []int{1, 3, 5})), "??1?1? true"},
		{"LongestFree", two(impl.LongestFree(s)), "1 true"},
	})
}

// callWithStrip calls every function of chapter 6 that takes a strip, and tells what they return.
func callWithStrip(s string, number int, b string) string {
	return told(
		impl.IsStrip(s), two(impl.CountStrip(s)), two(impl.CountStripMines(s, number)), two(impl.StripByMines(s)), two(impl.CountStripAt(s, number)),
		two(impl.FirstStrip(s)), two(impl.LastStrip(s)), two(impl.StripOfRank(s, number)), two(impl.RankOfStrip(s, b)), two(impl.SureStrip(s)),
		two(impl.DoesFitStrip(s, b)), two(impl.BackStrip(s)), two(impl.LongestFree(s)))
}

const withStripFail = "false 0 false 0 false [] false 0 false  false  false  false 0 false  false false false  false 0 false"

// TestSingleCellStrips: a cell alone has no neighbour, so the only number it can have is 0.
func TestSingleCellStrips(t *testing.T) {
	checkCases(t, []boardCase{
		{"? and .", callWithStrip("?", 0, "."), "true 2 true 1 true [1 1] true 1 true * true . true * true 1 true ? true true true ? true 0 true"},
		{"? and *", callWithStrip("?", 1, "*"), "true 2 true 1 true [1 1] true 0 false * true . true . true 0 true ? true true true ? true 0 true"},
		{"? behind the last rank", callWithStrip("?", 2, "*"), "true 2 true 0 true [1 1] true 0 false * true . true  false 0 true ? true true true ? true 0 true"},
		{"0 and .", callWithStrip("0", 0, "."), "true 1 true 1 true [1 0] true 0 true . true . true . true 0 true . true true true 0 true 1 true"},
		{"0 and *", callWithStrip("0", 1, "*"), "true 1 true 0 true [1 0] true 0 false . true . true  false 0 false . true false true 0 true 1 true"},
		{"1 and .", callWithStrip("1", 0, "."), "true 0 true 0 true [0 0] true 0 true  false  false  false 0 false  false false true 1 true 0 false"},
		{"2 and *", callWithStrip("2", 0, "*"), "true 0 true 0 true [0 0] true 0 true  false  false  false 0 false  false false true 2 true 0 false"},
		{"HideStrip . and none", two(impl.HideStrip(".", nil)), "0 true"},
		{"HideStrip . and its cell", two(impl.HideStrip(".", []int{0})), "? true"},
		{"HideStrip * and none", two(impl.HideStrip("*", nil)), "? true"},
		{"HideStrip * and its cell", two(impl.HideStrip("*", []int{0})), "? true"},
		{"CountStripSums 1 0", two(impl.CountStripSums(1, 0)), "2 true"},
		{"CountStripSums 1 1", two(impl.CountStripSums(1, 1)), "0 true"},
		{"CountStripSums 1 100", two(impl.CountStripSums(1, 100)), "0 true"},
		{"CountLists 1", two(impl.CountLists(1)), "1 true"},
	})
}

// TestFortyUnknownCells: all lists fit, and a rank tells its list by its bits: one for each cell, 0 for a mine.
func TestFortyUnknownCells(t *testing.T) {
	s, mines, free := strings.Repeat("?", 40), strings.Repeat("*", 40), strings.Repeat(".", 40)
	checkCases(t, []boardCase{
		{"IsStrip", told(impl.IsStrip(s)), "true"},
		{"CountStrip", two(impl.CountStrip(s)), told(1<<40, true)},
		{"FirstStrip", two(impl.FirstStrip(s)), told(mines, true)},
		{"LastStrip", two(impl.LastStrip(s)), told(free, true)},
		{"SureStrip", two(impl.SureStrip(s)), told(s, true)},
		{"BackStrip", two(impl.BackStrip(s)), told(s, true)},
		{"LongestFree", two(impl.LongestFree(s)), "0 true"},
		{"HideStrip of mines", two(impl.HideStrip(mines, nil)), told(s, true)},
		{"HideStrip of all cells", two(impl.HideStrip(free, upTo(40))), told(s, true)},
		{"HideStrip of the last cell", two(impl.HideStrip(free, []int{39})), told(strings.Repeat("0", 39)+"?", true)},
		{"HideStrip of a cell behind it", two(impl.HideStrip(free, []int{40})), " false"},
	})
	byMines := []any{}
	for count := range 41 {
		byMines = append(byMines, choose(40, count))
		got, ok := impl.CountStripMines(s, count)
		same(t, fmt.Sprint("CountStripMines of 40 cells ", count), got, ok, choose(40, count))
	}
	counts, ok := impl.StripByMines(s)
	same(t, "StripByMines of 40 cells", counts, ok, byMines)
	for cell := range s {
		got, ok := impl.CountStripAt(s, cell)
		same(t, fmt.Sprint("CountStripAt of 40 cells ", cell), got, ok, 1<<39)
	}
	for _, rank := range []int{0, 1, 2, 1 << 39, 1<<39 - 1, 1<<40 - 2, 1<<40 - 1, 0x5555555555, 0xaaaaaaaaaa, 0x123456789a} {
		want := strings.NewReplacer("0", "*", "1", ".").Replace(fmt.Sprintf("%040b", rank))
		got, ok := impl.StripOfRank(s, rank)
		same(t, fmt.Sprint("StripOfRank of 40 cells ", rank), got, ok, want)
		again, ok := impl.RankOfStrip(s, want)
		same(t, "RankOfStrip of 40 cells "+want, again, ok, rank)
		fits, ok := impl.DoesFitStrip(s, want)
		same(t, "DoesFitStrip of 40 cells "+want, fits, ok, true)
	}
	for _, rank := range []int{-1, 1 << 40, 1<<40 + 1, math.MinInt, math.MaxInt} {
		checkCases(t, []boardCase{{fmt.Sprint("StripOfRank of 40 cells ", rank), two(impl.StripOfRank(s, rank)), " false"}})
	}
}

// TestStripsOfFortyCells: numbers to the ends let no list, one or more fit.
func TestStripsOfFortyCells(t *testing.T) {
	unknown, alternate := strings.Repeat("?", 38), "*"+strings.Repeat("...*", 10)
	cases := []struct {
		s     string
		count int
		first string
		sure  string
		free  int
	}{
		{strings.Repeat("0", 40), 1, strings.Repeat(".", 40), strings.Repeat(".", 40), 40},
		{strings.Repeat("0?", 20), 1, strings.Repeat(".", 40), strings.Repeat(".", 40), 40},
		{strings.Repeat("?2", 19) + "??", 2, strings.Repeat("*.", 19) + "**", strings.Repeat("*.", 19) + "*?", 1},
		{strings.Repeat("?1", 20), 1, strings.Repeat("..*.", 10), strings.Repeat("..*.", 10), 3},
		{strings.Repeat("1?", 20), 1, strings.Repeat(".*..", 10), strings.Repeat(".*..", 10), 3},
		{"?" + strings.Repeat("?1", 19) + "?", 4, "*" + alternate[:39], "?" + strings.Repeat("?.", 19) + "?", 1},
		{unknown + "01", 0, "", "", 0},
		{unknown + "?2", 0, "", "", 0},
		{"2?" + unknown, 0, "", "", 0},
		{strings.Repeat("1", 40), 0, "", "", 0},
		{"1?" + unknown, 1 << 38, ".*" + strings.Repeat("*", 38), ".*" + unknown, 1},
		{unknown + "?0", 1 << 38, strings.Repeat("*", 38) + "..", unknown + "..", 2},
	}
	for _, c := range cases {
		ok := c.count > 0
		checkCases(t, []boardCase{
			{"CountStrip " + c.s, two(impl.CountStrip(c.s)), told(c.count, true)},
			{"FirstStrip " + c.s, two(impl.FirstStrip(c.s)), told(c.first, ok)},
			{"SureStrip " + c.s, two(impl.SureStrip(c.s)), told(c.sure, ok)},
			{"LongestFree " + c.s, two(impl.LongestFree(c.s)), told(c.free, ok)},
			{"StripOfRank behind the last one of " + c.s, two(impl.StripOfRank(c.s, c.count)), " false"},
			{"BackStrip " + c.s, two(impl.BackStrip(c.s)), told(backwards(c.s), true)},
		})
		if ok {
			checkCases(t, []boardCase{
				{"RankOfStrip " + c.s, two(impl.RankOfStrip(c.s, c.first)), "0 true"},
				{"DoesFitStrip " + c.s, two(impl.DoesFitStrip(c.s, c.first)), "true true"},
			})
		}
	}
}

// TestStripsWithOpenCellsAlone: as there are no mines, just zeros fit.
func TestStripsWithOpenCellsAlone(t *testing.T) {
	for _, s := range []string{"0", "00", "000", "00000000", strings.Repeat("0", 9)} {
		free := strings.Repeat(".", len(s))
		byMines := append([]int{1}, make([]int, len(s))...)
		checkCases(t, []boardCase{
			{"CountStrip " + s, two(impl.CountStrip(s)), "1 true"},
			{"StripByMines " + s, two(impl.StripByMines(s)), told(byMines, true)},
			{"FirstStrip " + s, two(impl.FirstStrip(s)), told(free, true)},
			{"LastStrip " + s, two(impl.LastStrip(s)), told(free, true)},
			{"RankOfStrip " + s, two(impl.RankOfStrip(s, free)), "0 true"},
			{"SureStrip " + s, two(impl.SureStrip(s)), told(free, true)},
			{"LongestFree " + s, two(impl.LongestFree(s)), told(len(s), true)},
			{"HideStrip " + free, two(impl.HideStrip(free, nil)), told(s, true)},
		})
	}
	for _, s := range []string{"1", "2", "01", "10", "11", "22", "010", "111", "0100000000"} {
		checkCases(t, []boardCase{
			{"CountStrip " + s, two(impl.CountStrip(s)), "0 true"},
			{"StripByMines " + s, two(impl.StripByMines(s)), told(make([]int, len(s)+1), true)},
			{"CountStripAt " + s, two(impl.CountStripAt(s, 0)), "0 true"},
			{"what is told of " + s, callThatNeedsLists(s), noListsFit},
			{"DoesFitStrip " + s, two(impl.DoesFitStrip(s, strings.Repeat(".", len(s)))), "false true"},
		})
	}
}

// TestStripsThatFewListsFit: numbers at the ends, and beside each other, leave no list, one or two.
func TestStripsThatFewListsFit(t *testing.T) {
	cases := []struct {
		s   string
		fit string
	}{
		{"?1", "*."}, {"1?", ".*"}, {"?0", ".."}, {"0?", ".."}, {"?2?", "*.*"}, {"?1?", "*.. ..*"}, {"?0?", "..."}, {"1?1", ".*."}, {"0?0", "..."},
		{"?11?", "*..*"}, {"?10?", "*..."}, {"?2?2?", "*.*.*"}, {"?2?1?", "*.*.."}, {"1?2?1", ".*.*."}, {"1??1", ".**."}, {"?1?0?", "*...."}, {"??2", ""}, {"2?", ""},
		{"2??", ""}, {"?2", ""}, {"?21?", ""}, {"0?1", ""}, {"?0?2?", ""}, {"1?0", ""}, {"?1?1?1?", "*...*.. ..*...*"}, {"?1?1?2?", "*...*.*"},
	}
	for _, c := range cases {
		fit := strings.Fields(c.fit)
		checkCases(t, []boardCase{{"CountStrip " + c.s, two(impl.CountStrip(c.s)), told(len(fit), true)}})
		for rank, b := range fit {
			checkCases(t, []boardCase{
				{fmt.Sprint("StripOfRank ", c.s, " ", rank), two(impl.StripOfRank(c.s, rank)), told(b, true)},
				{"RankOfStrip " + c.s + " " + b, two(impl.RankOfStrip(c.s, b)), told(rank, true)},
			})
		}
		if len(fit) == 0 {
			checkCases(t, []boardCase{{"what is told of " + c.s, callThatNeedsLists(c.s), noListsFit}})
			continue
		}
		checkCases(t, []boardCase{
			{"FirstStrip " + c.s, two(impl.FirstStrip(c.s)), told(fit[0], true)},
			{"LastStrip " + c.s, two(impl.LastStrip(c.s)), told(fit[len(fit)-1], true)},
		})
	}
}

// TestMinesOfStrips: from none up to MaxStrip they are counted, also if there are more than unknown cells, and no others are.
func TestMinesOfStrips(t *testing.T) {
	counts := map[string][]int{"?": {1, 1}, "0": {1}, "1": {}, "???": {1, 3, 3, 1}, "?1?": {0, 2}, "?2?": {0, 0, 1}, "?0?": {1}, "??1??": {0, 2, 4, 2}}
	for s, want := range counts {
		for _, mines := range append(oddInts(), 2, 3, 4, 5, 39, 40, 41) {
			count := 0
			if mines >= 0 && mines < len(want) {
				count = want[mines]
			}
			call := fmt.Sprint("CountStripMines ", s, " ", mines)
			checkCases(t, []boardCase{{call, two(impl.CountStripMines(s, mines)), told(count, mines >= 0 && mines <= 40)}})
		}
	}
}

// TestStripCellsThatThereAreNot: no lists with a mine in them are counted.
func TestStripCellsThatThereAreNot(t *testing.T) {
	for _, s := range []string{"?", "0", "2", "?1?", "??1??", strings.Repeat("?", 40)} {
		for _, cell := range append(oddInts(), len(s), len(s)+1) {
			if cell < 0 || cell >= len(s) {
				checkCases(t, []boardCase{{fmt.Sprint("CountStripAt ", s, " ", cell), two(impl.CountStripAt(s, cell)), "0 false"}})
			}
		}
	}
}

// TestRanksThatThereAreNot: they are below 0, or as great as there are lists, or greater.
func TestRanksThatThereAreNot(t *testing.T) {
	for s, count := range map[string]int{"?": 2, "0": 1, "2": 0, "?1?": 2, "??1??": 8, "????????": 256} {
		for _, rank := range append(oddInts(), count, count+1) {
			if rank < 0 || rank >= count {
				checkCases(t, []boardCase{{fmt.Sprint("StripOfRank ", s, " ", rank), two(impl.StripOfRank(s, rank)), " false"}})
			}
		}
	}
}

// TestFreeCellsBesideEachOther: at the ends, in the middle, in some places as many, or nowhere; those that are free in some lists alone do not count.
func TestFreeCellsBesideEachOther(t *testing.T) {
	cases := []struct {
		s    string
		sure string
		free int
	}{
		{"?", "?", 0}, {"???", "???", 0}, {"?1", "*.", 1}, {"1?", ".*", 1}, {"0??", "..?", 2}, {"??0", "?..", 2}, {"???0???", "??...??", 3},
		{"0?????0", "..???..", 2}, {"0????0?", "..??...", 3}, {"?0????0", "...??..", 3}, {"0??0", "....", 4}, {"?0?1?", "....*", 4}, {"?1?0?", "*....", 4},
		{"?2?", "*.*", 1}, {"?1?", "?.?", 1}, {"????1", "???*.", 1}, {"?11?", "*..*", 2}, {"1??1", ".**.", 1}, {"??0????0??", "?...??...?", 3}, {"0????1?", "..???.?", 2},
	}
	for _, c := range cases {
		checkCases(t, []boardCase{
			{"SureStrip " + c.s, two(impl.SureStrip(c.s)), told(c.sure, true)},
			{"LongestFree " + c.s, two(impl.LongestFree(c.s)), told(c.free, true)},
			{"LongestFree backwards " + c.s, two(impl.LongestFree(backwards(c.s))), told(c.free, true)},
		})
	}
}

// TestHiddenLists: mines are unknown whether they are listed or not, and lists are hidden whole, in part and not at all.
func TestHiddenLists(t *testing.T) {
	b := "*..*.*..."
	cases := []struct {
		hidden []int
		want   string
	}{
		{nil, "?11?2?100"}, {[]int{}, "?11?2?100"}, {[]int{0, 3, 5}, "?11?2?100"}, {[]int{0}, "?11?2?100"}, {[]int{5}, "?11?2?100"},
		{[]int{1}, "??1?2?100"}, {[]int{0, 1}, "??1?2?100"}, {[]int{4, 8}, "?11???10?"}, {[]int{1, 2, 4, 6, 7, 8}, "?????????"}, {upTo(9), "?????????"}, {upTo(8), "????????0"},
	}
	for _, c := range cases {
		checkCases(t, []boardCase{{fmt.Sprint("HideStrip ", c.hidden), two(impl.HideStrip(b, c.hidden)), told(c.want, true)}})
	}
	lists := [][]int{
		{-1}, {9}, {0, 0}, {3, 3}, {1, 0}, {0, 2, 1}, {-1, 0}, {0, 9}, {8, 9}, {0, -1}, {math.MinInt}, {math.MaxInt}, {0, math.MaxInt}, {0, math.MinInt},
		upTo(10), append(upTo(9), 8), append(upTo(9), 0), make([]int, 2), make([]int, 1000),
	}
	for _, hidden := range lists {
		checkCases(t, []boardCase{{fmt.Sprint("HideStrip ", hidden), two(impl.HideStrip(b, hidden)), " false"}})
	}
}

// TestListsOfOtherCells: they have not as many cells, so they do not even fail to fit.
func TestListsOfOtherCells(t *testing.T) {
	for _, s := range []string{"?", "0", "??", "?1?", "??1??", "2?", strings.Repeat("?", 40)} {
		for _, length := range []int{1, 2, 3, 4, 5, 6, 39, 40, 41} {
			for _, b := range []string{strings.Repeat(".", length), strings.Repeat("*", length)} {
				if length != len(s) {
					checkCases(t, []boardCase{
						{"DoesFitStrip " + s + " " + b, two(impl.DoesFitStrip(s, b)), "false false"},
						{"RankOfStrip " + s + " " + b, two(impl.RankOfStrip(s, b)), "0 false"},
					})
				}
			}
		}
	}
}

// TestSumsOfStrips: from 0 to 100 they are counted, also those that no list has, and no others are.
func TestSumsOfStrips(t *testing.T) {
	cases := map[int][]int{1: {2}, 2: {2, 2}, 3: {2, 4, 2}, 5: {2, 8, 12, 8, 2}}
	for cells, counts := range cases {
		for _, sum := range append(oddInts(), 2, 3, 4, 5, 6, 40, 41, 99, 100, 101, 1000) {
			count := 0
			if sum >= 0 && sum < len(counts) {
				count = counts[sum]
			}
			call := fmt.Sprint("CountStripSums ", cells, " ", sum)
			checkCases(t, []boardCase{{call, two(impl.CountStripSums(cells, sum)), told(count, sum >= 0 && sum <= 100)}})
		}
	}
	checkCases(t, []boardCase{
		{"CountStripSums 40 0", two(impl.CountStripSums(40, 0)), "2 true"},
		{"CountStripSums 40 1", two(impl.CountStripSums(40, 1)), "78 true"},
		{"CountStripSums 40 19", two(impl.CountStripSums(40, 19)), "137846528820 true"},
		{"CountStripSums 40 20", two(impl.CountStripSums(40, 20)), "137846528820 true"},
		{"CountStripSums 40 39", two(impl.CountStripSums(40, 39)), "2 true"},
		{"CountStripSums 40 40", two(impl.CountStripSums(40, 40)), "0 true"},
		{"CountStripSums 40 41", two(impl.CountStripSums(40, 41)), "0 true"},
		{"CountStripSums 40 100", two(impl.CountStripSums(40, 100)), "0 true"},
		{"CountStripSums 40 101", two(impl.CountStripSums(40, 101)), "0 false"},
		{"CountStripSums 40 -1", two(impl.CountStripSums(40, -1)), "0 false"},
	})
}

// TestNumbersOfCells: sums are counted of 1 to 40 cells, lists of numbers of 1 to 12.
func TestNumbersOfCells(t *testing.T) {
	lists := map[int]int{1: 1, 2: 4, 3: 6, 4: 16, 5: 28, 6: 64, 7: 120, 8: 256, 9: 496, 10: 1024, 11: 2016, 12: 4096}
	for _, cells := range append(oddInts(), 2, 3, 4, 5, 6, 10, 11, 12, 13, 39, 40, 41) {
		checkCases(t, []boardCase{
			{fmt.Sprint("CountLists ", cells), two(impl.CountLists(cells)), told(lists[cells], cells >= 1 && cells <= 12)},
		})
		sums := "0 false"
		if cells >= 1 && cells <= 40 {
			sums = "2 true"
		}
		checkCases(t, []boardCase{{fmt.Sprint("CountStripSums ", cells, " 0"), two(impl.CountStripSums(cells, 0)), sums}})
	}
}

// TestIsStripOfShortTexts tries all texts of up to five signs, and all of one byte or two.
func TestIsStripOfShortTexts(t *testing.T) {
	strip := regexp.MustCompile(`\A[?012]{1,40}\z`)
	check := func(s string) {
		if got, want := impl.IsStrip(s), strip.MatchString(s); got != want {
			t.Errorf("IsStrip %q: %v, want %v", s, got, want)
		}
	}
	eachText([]string{"?", "0", "1", "2", "3", "*", "."}, 5, check)
	for first := range 256 {
		check(string([]byte{byte(first)}))
		for second := range 256 {
			check(string([]byte{byte(first), byte(second)}))
		}
	}
	for length := range 100 {
		check(strings.Repeat("?", length))
		check(strings.Repeat("0", length))
	}
}

// noRows are texts that are neither strips nor lists of mines, for one reason each: among them are signs of more than one byte whose numbers end as those of the right ones do.
func noRows() []string {
	texts := []string{
		"", "3", "8", "9", "-", "a", " ", "\n", "\x00", "\x80", "\xff", "\xc0\xbf", "\xc0\xae", "\u012a", "\u012e", "\u013f", "\u0130", "\u0131", "\uff1f", "\u00bf", "\ufffd",
		strings.Repeat("?", 41), strings.Repeat("0", 41), strings.Repeat(".", 41), strings.Repeat("*", 41), strings.Repeat("?", 1<<20), strings.Repeat(".", 1<<20),
		"?*", "1.", "*?.", "?/?", "*/.", "???/???", "?,?", strings.Repeat("?", 20) + "3" + strings.Repeat("?", 19), strings.Repeat(".", 39) + "\u012a", strings.Repeat("?", 38) + "\u013f",
	}
	for _, good := range []string{"?1?1?", "*..*."} {
		for i := range good {
			for _, sign := range []string{"3", "8", "o", "/", "\x00", "\x80", "\u012a", "\u0131"} {
				texts = append(texts, good[:i]+sign+good[i+1:])
			}
		}
		texts = append(texts, good+"\n", "\n"+good, " "+good, good+"/")
	}
	return texts
}

func TestNoStripsFail(t *testing.T) {
	for _, s := range append(noRows(), ".", "*", "*..*.") {
		for _, b := range []string{".", "*..*.", strings.Repeat(".", len(s)%41), s} {
			for _, number := range []int{-1, 0, 1, 40} {
				checkCases(t, []boardCase{{fmt.Sprintf("%.60q %.60q %d", s, b, number), callWithStrip(s, number, b), withStripFail}})
			}
		}
	}
}

func TestNoListsFail(t *testing.T) {
	for _, b := range append(noRows(), "?", "1", "?1?1?") {
		for _, s := range []string{"?", "?1?1?", strings.Repeat("?", 40), strings.Repeat("?", 1+len(b)%40)} {
			checkCases(t, []boardCase{
				{fmt.Sprintf("DoesFitStrip %s %.60q", s, b), two(impl.DoesFitStrip(s, b)), "false false"},
				{fmt.Sprintf("RankOfStrip %s %.60q", s, b), two(impl.RankOfStrip(s, b)), "0 false"},
			})
		}
		for _, hidden := range [][]int{nil, {0}, {0, 1}, upTo(40)} {
			checkCases(t, []boardCase{{fmt.Sprintf("HideStrip %.60q %v", b, hidden), two(impl.HideStrip(b, hidden)), " false"}})
		}
	}
}
