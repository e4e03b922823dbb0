package tests

import (
	"fmt"
	"math"
	"math/big"
	"strings"
	"testing"

	"loop.example/g01294/impl"
)

func TestCountExample(t *testing.T) {
	checkCases(t, []boardCase{
		{"PairsOfCells 2 2", two(impl.PairsOfCells(2, 2)), "6 true"},
		{"SumCounts 2 2", two(impl.SumCounts(2, 2)), "[[0 2] [3 8] [4 6]] true"},
		{"MeanSum 2 2 1", three(impl.MeanSum(2, 2, 1)), "3 1 true"},
		{"GreatestSum 3 3", two(impl.GreatestSum(3, 3)), "14 true"},
		{"FirstGreatest 3 3", two(impl.FirstGreatest(3, 3)), "***/.../*** true"},
		{"CountToldBoards 2 2", two(impl.CountToldBoards(2, 2)), "16 true"},
		{"SameNumbers 2 2", two(impl.SameNumbers("*./..")), "[*./..] true"},
		{"MostApart 3 3", two(impl.MostApart(3, 3)), "4 true"},
		{"CountMostApart 3 3", two(impl.CountMostApart(3, 3)), "1 true"},
		{"FewestNear 3 3", two(impl.FewestNear(3, 3)), "1 true"},
		{"FirstNear 3 3", two(impl.FirstNear(3, 3)), ".../.*./... true"},
	})
}

func TestOrdinaryCounts(t *testing.T) {
	checkCases(t, []boardCase{
		{"PairsOfCells", two(impl.PairsOfCells(3, 2)), "11 true"},
		{"CountBoards", two(impl.CountBoards(3, 2, 2)), "15 true"},
		{"CountWithSum", two(impl.CountWithSum(3, 2, 8)), "2 true"},
		{"CountWithSum of one mine in a corner, and others", two(impl.CountWithSum(3, 2, 3)), "8 true"},
		{"SumCounts", two(impl.SumCounts(3, 2)), "[[0 2] [3 8] [4 4] [5 8] [6 24] [7 16] [8 2]] true"},
		{"MeanSum", three(impl.MeanSum(3, 2, 2)), "88 15 true"},
		{"MeanSum of as many free cells", three(impl.MeanSum(3, 2, 4)), "88 15 true"},
		{"MeanNumber in a corner", three(impl.MeanNumber(3, 2, 2, 0)), "6 5 true"},
		{"MeanNumber at an edge", three(impl.MeanNumber(3, 2, 2, 4)), "2 1 true"},
		{"GreatestSum", two(impl.GreatestSum(3, 2)), "8 true"},
		{"FirstGreatest", two(impl.FirstGreatest(3, 2)), "*.*/*.* true"},
		{"CountToldBoards", two(impl.CountToldBoards(3, 2)), "64 true"},
		{"CountToldBoards where others have the same numbers", two(impl.CountToldBoards(3, 3)), "448 true"},
		{"MostApart", two(impl.MostApart(3, 2)), "2 true"},
		{"CountMostApart", two(impl.CountMostApart(3, 2)), "4 true"},
		{"FewestNear", two(impl.FewestNear(3, 2)), "1 true"},
		{"FirstNear", two(impl.FirstNear(3, 2)), ".*./... true"},
		{"CountWithNumber", two(impl.CountWithNumber(3, 2, 2, 0, 1)), "6 true"},
		{"CountWithNumber of all mines", two(impl.CountWithNumber(3, 2, 2, 0, 2)), "3 true"},
		{"CountWithNumber of no mine", two(impl.CountWithNumber(3, 2, 2, 0, 0)), "1 true"},
		{"CountWithNumber greater than the mines", two(impl.CountWithNumber(3, 2, 2, 0, 3)), "0 true"},
		{"CountZeroBoards", two(impl.CountZeroBoards(3, 2, 2)), "2 true"},
		{"CountZeroBoards of one mine", two(impl.CountZeroBoards(3, 2, 1)), "4 true"},
	})
}

// callCounts calls every function of chapter 5 that takes a size and has a limit of cells, and tells what they return.
func callCounts(width int, height int, mines int, cell int, number int, sum int) string {
	return told(
		two(impl.CountBoards(width, height, mines)), two(impl.CountWithSum(width, height, sum)), two(impl.SumCounts(width, height)),
		two(impl.FirstGreatest(width, height)), two(impl.CountToldBoards(width, height)), two(impl.MostApart(width, height)),
		two(impl.CountMostApart(width, height)), two(impl.FewestNear(width, height)), two(impl.FirstNear(width, height)),
		two(impl.CountWithNumber(width, height, mines, cell, number)), two(impl.CountZeroBoards(width, height, mines)))
}

const countsFail = "0 false 0 false [] false  false 0 false 0 false 0 false 0 false  false 0 false 0 false"

// callMeans calls all others that take a size.
func callMeans(width int, height int, mines int, cell int) string {
	return told(
		two(impl.PairsOfCells(width, height)), two(impl.GreatestSum(width, height)),
		three(impl.MeanSum(width, height, mines)), three(impl.MeanNumber(width, height, mines, cell)))
}

const meansFail = "0 false 0 false 0 0 false 0 0 false"

// TestCountsOfASingleCell: it has no pairs, and both of its boards have the sum 0 and the same numbers.
func TestCountsOfASingleCell(t *testing.T) {
	checkCases(t, []boardCase{
		{"counts without mines", callCounts(1, 1, 0, 0, 0, 0), "1 true 2 true [[0 2]] true * true 0 true 1 true 1 true 1 true * true 1 true 1 true"},
		{"counts with a mine", callCounts(1, 1, 1, 0, 0, 1), "1 true 0 true [[0 2]] true * true 0 true 1 true 1 true 1 true * true 0 true 0 true"},
		{"counts with a number that it cannot have", two(impl.CountWithNumber(1, 1, 0, 0, 1)), "0 true"},
		{"means without mines", callMeans(1, 1, 0, 0), "0 true 0 true 0 1 true 0 1 true"},
		{"means with a mine", callMeans(1, 1, 1, 0), "0 true 0 true 0 1 true 0 0 false"},
		{"SameNumbers .", two(impl.SameNumbers(".")), "[* .] true"},
		{"SameNumbers *", two(impl.SameNumbers("*")), "[* .] true"},
	})
}

// TestCountsOfOneRowOrColumn: they are counted alike, and told by texts of their own.
func TestCountsOfOneRowOrColumn(t *testing.T) {
	cases := []struct {
		cells    int
		pairs    int
		sums     string
		greatest string
		told     int
		apart    string
		near     string
	}{
		{2, 1, "[[0 2] [1 2]]", "*.", 4, "1 true 2 true", "*."},
		{3, 2, "[[0 2] [1 4] [2 2]]", "*.*", 4, "2 true 1 true", ".*."},
		{4, 3, "[[0 2] [1 6] [2 6] [3 2]]", "*.*.", 16, "2 true 3 true", "*.*."},
		{5, 4, "[[0 2] [1 8] [2 12] [3 8] [4 2]]", "*.*.*", 24, "3 true 1 true", "*..*."},
		{8, 7, "[[0 2] [1 14] [2 42] [3 70] [4 70] [5 42] [6 14] [7 2]]", "*.*.*.*.", 256, "4 true 5 true", "*..*..*."},
	}
	for _, c := range cases {
		near := told(strings.Count(c.near, "*"), true)
		for _, size := range [][2]int{{c.cells, 1}, {1, c.cells}} {
			width, height := size[0], size[1]
			text := func(row string) string {
				if width == 1 {
					row = strings.Join(strings.Split(row, ""), "/")
				}
				return told(row, true)
			}
			call := fmt.Sprintf(" %d %d", width, height)
			checkCases(t, []boardCase{
				{"PairsOfCells" + call, two(impl.PairsOfCells(width, height)), told(c.pairs, true)},
				{"SumCounts" + call, two(impl.SumCounts(width, height)), told(c.sums, true)},
				{"GreatestSum" + call, two(impl.GreatestSum(width, height)), told(c.pairs, true)},
				{"FirstGreatest" + call, two(impl.FirstGreatest(width, height)), text(c.greatest)},
				{"CountToldBoards" + call, two(impl.CountToldBoards(width, height)), told(c.told, true)},
				{"MostApart and CountMostApart" + call, told(two(impl.MostApart(width, height)), two(impl.CountMostApart(width, height))), c.apart},
				{"FewestNear" + call, two(impl.FewestNear(width, height)), near},
				{"FirstNear" + call, two(impl.FirstNear(width, height)), text(c.near)},
				{"MeanSum of one mine" + call, three(impl.MeanSum(width, height, 1)), toldMean(big.NewRat(int64(2*c.pairs), int64(c.cells)))},
				{"MeanNumber of the first cell" + call, three(impl.MeanNumber(width, height, 1, 0)), toldMean(big.NewRat(1, int64(c.cells-1)))},
				{"MeanNumber of the last cell, of as many mines as there may be" + call, three(impl.MeanNumber(width, height, c.cells-1, c.cells-1)), "1 1 true"},
				{"CountZeroBoards without mines" + call, two(impl.CountZeroBoards(width, height, 0)), "1 true"},
			})
		}
	}
}

// TestTwelveCells: all shapes of as many cells as there may be.
func TestTwelveCells(t *testing.T) {
	cases := []struct {
		width    int
		height   int
		pairs    int
		greatest int
		first    string
		apart    string
		near     string
	}{
		{2, 6, 26, 20, "**/../**/../**/..", "3 true 32 true", "../*./../../*./.."},
		{6, 2, 26, 20, "*.*.*./*.*.*.", "3 true 32 true", ".*..*./......"},
		{3, 4, 29, 21, "***/.../***/...", "4 true 9 true", ".*./.../.*./..."},
		{4, 3, 29, 21, "*.*./*.*./*.*.", "4 true 9 true", "..../*.*./...."},
	}
	for _, c := range cases {
		call := fmt.Sprintf(" %d %d", c.width, c.height)
		checkCases(t, []boardCase{
			{"PairsOfCells" + call, two(impl.PairsOfCells(c.width, c.height)), told(c.pairs, true)},
			{"GreatestSum" + call, two(impl.GreatestSum(c.width, c.height)), told(c.greatest, true)},
			{"FirstGreatest" + call, two(impl.FirstGreatest(c.width, c.height)), told(c.first, true)},
			{"MostApart and CountMostApart" + call, told(two(impl.MostApart(c.width, c.height)), two(impl.CountMostApart(c.width, c.height))), c.apart},
			{"FewestNear" + call, two(impl.FewestNear(c.width, c.height)), "2 true"},
			{"FirstNear" + call, two(impl.FirstNear(c.width, c.height)), told(c.near, true)},
			{"CountBoards" + call, two(impl.CountBoards(c.width, c.height, 6)), "924 true"},
			{"CountBoards without mines" + call, two(impl.CountBoards(c.width, c.height, 0)), "1 true"},
			{"CountBoards of mines alone" + call, two(impl.CountBoards(c.width, c.height, 12)), "1 true"},
			{"CountWithSum 0" + call, two(impl.CountWithSum(c.width, c.height, 0)), "2 true"},
			{"CountWithSum 1" + call, two(impl.CountWithSum(c.width, c.height, 1)), "0 true"},
			{"CountWithSum of a mine, or a free cell, in a corner" + call, two(impl.CountWithSum(c.width, c.height, 3)), "8 true"},
			{"CountWithSum 500" + call, two(impl.CountWithSum(c.width, c.height, 500)), "0 true"},
			{"CountWithNumber in the last cell" + call, two(impl.CountWithNumber(c.width, c.height, 11, 11, 3)), "1 true"},
			{"CountWithNumber of mines alone" + call, two(impl.CountWithNumber(c.width, c.height, 12, 11, 3)), "0 true"},
			{"CountZeroBoards without mines" + call, two(impl.CountZeroBoards(c.width, c.height, 0)), "1 true"},
			{"CountZeroBoards of mines alone" + call, two(impl.CountZeroBoards(c.width, c.height, 12)), "0 true"},
		})
	}
}

// TestMoreCellsThanThereMayBe: means, pairs and greatest sums are told all the same.
func TestMoreCellsThanThereMayBe(t *testing.T) {
	for _, size := range [][2]int{{7, 2}, {2, 7}, {5, 3}, {3, 5}, {4, 4}, {8, 2}, {2, 8}, {8, 8}} {
		width, height := size[0], size[1]
		call := fmt.Sprintf(" %d %d", width, height)
		checkCases(t, []boardCase{
			{"counts" + call, callCounts(width, height, 0, 0, 0, 0), countsFail},
			{"counts of a mine" + call, callCounts(width, height, 1, 1, 1, 14), countsFail},
		})
		if got := callMeans(width, height, 1, 0); strings.Contains(got, "false") {
			t.Errorf("means%s: %s", call, got)
		}
		free := textOfBits(width, height, 0)
		for _, b := range []string{free, strings.ReplaceAll(free, ".", "*"), "*" + free[1:]} {
			checkCases(t, []boardCase{{"SameNumbers " + b, two(impl.SameNumbers(b)), "[] false"}})
		}
	}
	// There are no 13 cells but in sides that are too long.
	checkCases(t, []boardCase{
		{"counts 13 1", callCounts(13, 1, 0, 0, 0, 0), countsFail},
		{"counts 1 13", callCounts(1, 13, 0, 0, 0, 0), countsFail},
		{"means 13 1", callMeans(13, 1, 0, 0), meansFail},
		{"means 1 13", callMeans(1, 13, 0, 0), meansFail},
		{"SameNumbers of 13 cells", two(impl.SameNumbers(strings.Repeat(".", 13))), "[] false"},
		{"SameNumbers of 13 rows", two(impl.SameNumbers(strings.Repeat("./", 12) + ".")), "[] false"},
		{"counts 9 1", callCounts(9, 1, 0, 0, 0, 0), countsFail},
		{"counts 1 12", callCounts(1, 12, 0, 0, 0, 0), countsFail},
		{"counts 12 1", callCounts(12, 1, 0, 0, 0, 0), countsFail},
		{"means 9 8", callMeans(9, 8, 0, 0), meansFail},
		{"means 8 9", callMeans(8, 9, 0, 0), meansFail},
	})
}

func TestMeansOfEightByEight(t *testing.T) {
	checkCases(t, []boardCase{
		{"PairsOfCells", two(impl.PairsOfCells(8, 8)), "210 true"},
		{"GreatestSum", two(impl.GreatestSum(8, 8)), "154 true"},
		{"MeanSum", three(impl.MeanSum(8, 8, 10)), "225 4 true"},
		{"MeanSum without mines", three(impl.MeanSum(8, 8, 0)), "0 1 true"},
		{"MeanSum of one mine", three(impl.MeanSum(8, 8, 1)), "105 16 true"},
		{"MeanSum of the half", three(impl.MeanSum(8, 8, 32)), "320 3 true"},
		{"MeanSum of one free cell", three(impl.MeanSum(8, 8, 63)), "105 16 true"},
		{"MeanSum of mines alone", three(impl.MeanSum(8, 8, 64)), "0 1 true"},
		{"MeanNumber in the first corner", three(impl.MeanNumber(8, 8, 10, 0)), "10 21 true"},
		{"MeanNumber in the last corner", three(impl.MeanNumber(8, 8, 10, 63)), "10 21 true"},
		{"MeanNumber at an edge", three(impl.MeanNumber(8, 8, 10, 8)), "50 63 true"},
		{"MeanNumber of an inner cell", three(impl.MeanNumber(8, 8, 10, 9)), "80 63 true"},
		{"MeanNumber without mines", three(impl.MeanNumber(8, 8, 0, 9)), "0 1 true"},
		{"MeanNumber of one free cell", three(impl.MeanNumber(8, 8, 63, 9)), "8 1 true"},
		{"MeanNumber of mines alone", three(impl.MeanNumber(8, 8, 64, 9)), "0 0 false"},
	})
}

// TestSameNumbers: boards may be alone, or have others with the same numbers, of as many mines or not.
func TestSameNumbers(t *testing.T) {
	cases := []struct{ b, want string }{
		{"*.", "[*.]"}, {"..", "[..]"}, {"*..", "[*.. ..*]"}, {"..*", "[*.. ..*]"}, {"***", "[***]"}, {".*.", "[.*.]"},
		{"*/./.", "[*/./. ././*]"}, {".*.*.*.", "[.*.*.*.]"}, {"*...*..", "[*...*.. ..*...*]"}, {"*..*", "[*..*]"}, {"..*..", "[*...* ..*..]"},
		{".../.../...", "[.../.../...]"}, {".../.*./...", "[.../.*./...]"}, {"***/***/***", "[***/***/***]"},
		{"**./***/..*", "[**./***/..* .**/***/*..]"}, {".**/***/**.", "[**./***/.** .**/***/**.]"}, {"****/*..*/****", "[****/*..*/****]"},
	}
	for _, c := range cases {
		checkCases(t, []boardCase{{"SameNumbers " + c.b, two(impl.SameNumbers(c.b)), c.want + " true"}})
	}
}

// TestCountsOfMines: there are none with fewer than no mine, or with more than there are cells.
func TestCountsOfMines(t *testing.T) {
	for _, size := range [][2]int{{1, 1}, {2, 1}, {3, 3}, {4, 3}, {2, 6}} {
		width, height := size[0], size[1]
		for _, mines := range append(oddInts(), width*height, width*height+1) {
			if mines >= 0 && mines <= width*height {
				continue
			}
			call := fmt.Sprintf(" %d %d %d", width, height, mines)
			checkCases(t, []boardCase{
				{"CountBoards" + call, two(impl.CountBoards(width, height, mines)), "0 false"},
				{"CountWithNumber" + call, two(impl.CountWithNumber(width, height, mines, 0, 0)), "0 false"},
				{"CountZeroBoards" + call, two(impl.CountZeroBoards(width, height, mines)), "0 false"},
				{"MeanSum" + call, three(impl.MeanSum(width, height, mines)), "0 0 false"},
				{"MeanNumber" + call, three(impl.MeanNumber(width, height, mines, 0)), "0 0 false"},
			})
		}
	}
	for _, mines := range []int{-1, 65, math.MinInt, math.MaxInt, 1 << 32, 1 << 61} {
		checkCases(t, []boardCase{
			{fmt.Sprint("MeanSum 8 8 ", mines), three(impl.MeanSum(8, 8, mines)), "0 0 false"},
			{fmt.Sprint("MeanNumber 8 8 ", mines), three(impl.MeanNumber(8, 8, mines, 0)), "0 0 false"},
		})
	}
}

// TestCountsOfCellsThatThereAreNot: they have no numbers, and no mean ones.
func TestCountsOfCellsThatThereAreNot(t *testing.T) {
	for _, size := range [][2]int{{1, 1}, {3, 1}, {1, 3}, {2, 3}, {4, 3}} {
		width, height := size[0], size[1]
		for _, cell := range append(oddInts(), width*height, width*height+1) {
			if cell >= 0 && cell < width*height {
				continue
			}
			call := fmt.Sprintf(" %d %d, cell %d", width, height, cell)
			checkCases(t, []boardCase{
				{"CountWithNumber" + call, two(impl.CountWithNumber(width, height, 0, cell, 0)), "0 false"},
				{"MeanNumber" + call, three(impl.MeanNumber(width, height, 0, cell)), "0 0 false"},
			})
		}
	}
	for _, cell := range []int{-1, 64, math.MinInt, math.MaxInt, 1 << 32} {
		checkCases(t, []boardCase{{fmt.Sprint("MeanNumber 8 8 10 ", cell), three(impl.MeanNumber(8, 8, 10, cell)), "0 0 false"}})
	}
}

// TestCountsOfNumbers: those from 0 to 8 are counted, also where a cell cannot have them, and no others are.
func TestCountsOfNumbers(t *testing.T) {
	cases := map[int][]int{
		0: {56, 84, 24, 1, 0, 0, 0, 0, 0},
		1: {20, 75, 60, 10, 0, 0, 0, 0, 0},
		5: {1, 24, 84, 56, 0, 0, 0, 0, 0},
	}
	for cell, counts := range cases {
		for number, count := range counts {
			call := fmt.Sprintf("CountWithNumber 4 3 3 %d %d", cell, number)
			checkCases(t, []boardCase{{call, two(impl.CountWithNumber(4, 3, 3, cell, number)), told(count, true)}})
		}
	}
	checkCases(t, []boardCase{
		{"CountWithNumber 8", two(impl.CountWithNumber(3, 3, 8, 4, 8)), "1 true"},
		{"CountWithNumber 8 of too few mines", two(impl.CountWithNumber(3, 3, 7, 4, 8)), "0 true"},
		{"CountWithNumber 0 of the same", two(impl.CountWithNumber(3, 3, 8, 4, 0)), "0 true"},
	})
	for _, number := range oddInts() {
		if number < 0 || number > 8 {
			checkCases(t, []boardCase{{fmt.Sprint("CountWithNumber ", number), two(impl.CountWithNumber(3, 3, 3, 4, number)), "0 false"}})
		}
	}
}

// TestCountsOfSums: those from 0 to 500 are counted, also where no board has them, and no others are.
func TestCountsOfSums(t *testing.T) {
	for _, sum := range append(oddInts(), 2, 3, 500, 501, 1000) {
		want := "0 false"
		switch {
		case sum == 0:
			want = "2 true"
		case sum == 1:
			want = "4 true"
		case sum == 2:
			want = "2 true"
		case sum > 2 && sum <= 500:
			want = "0 true"
		}
		checkCases(t, []boardCase{{fmt.Sprint("CountWithSum 3 1 ", sum), two(impl.CountWithSum(3, 1, sum)), want}})
	}
}

// TestSizesThatAreNone: a side is too short or too long, also if both together would make a few cells, or their product none.
func TestSizesThatAreNone(t *testing.T) {
	for _, width := range append(oddInts(), 2, 3, 4, 12, 13) {
		for _, height := range append(oddInts(), 2, 3, 4, 12, 13) {
			is := width >= 1 && width <= 8 && height >= 1 && height <= 8
			call := fmt.Sprintf(" %d %d", width, height)
			counts, means := callCounts(width, height, 0, 0, 0, 0), callMeans(width, height, 0, 0)
			if is && width*height <= 12 {
				if strings.Contains(counts, "false") {
					t.Errorf("counts%s: %s", call, counts)
				}
			} else {
				checkCases(t, []boardCase{{"counts" + call, counts, countsFail}})
			}
			if is {
				if strings.Contains(means, "false") {
					t.Errorf("means%s: %s", call, means)
				}
			} else {
				checkCases(t, []boardCase{{"means" + call, means, meansFail}})
			}
		}
	}
}

func TestNoBoardsFailForSameNumbers(t *testing.T) {
	for _, s := range append(noBoards(), full("."), full("*"), "????", "1/1") {
		checkCases(t, []boardCase{{"SameNumbers " + s, two(impl.SameNumbers(s)), "[] false"}})
	}
}
