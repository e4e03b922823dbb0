package tests

import (
	"fmt"
	"math"
	"slices"
	"strings"
	"testing"

	"loop.example/g01294/impl"
)

func TestJoinedExample(t *testing.T) {
	b := "*../.../..."
	checkCases(t, []boardCase{
		{"JoinedPicture", two(impl.JoinedPicture(b)), "*11/111/111 true"},
		{"JoinedSum", two(impl.JoinedSum(b)), "8 true"},
		{"ShiftBoard 1 1", two(impl.ShiftBoard(b, 1, 1)), ".../.*./... true"},
		{"CountShifts", two(impl.CountShifts(b)), "9 true"},
		{"JoinedNumbers of a row", two(impl.JoinedNumbers("***/.../...")), "[2 2 2 3 3 3 3 3 3] true"},
		{"IsEven of mines alone", two(impl.IsEven("***/***/***")), "8 true"},
		{"JoinedOpened of no mines", two(impl.JoinedOpened(".../.../...", 4)), "[0 1 2 3 4 5 6 7 8] true"},
		{"MaxJoined", fmt.Sprint(impl.MaxJoined), "16"},
	})
}

// callJoined calls every function of chapter 8 that takes a board alone, and tells what they return.
func callJoined(b string) string {
	return told(
		impl.IsJoined(b), two(impl.JoinedNumbers(b)), two(impl.JoinedPicture(b)), two(impl.JoinedSum(b)), two(impl.LeastShift(b)),
		two(impl.CountShifts(b)), two(impl.ShiftsKept(b)), two(impl.IsEven(b)), two(impl.JoinedGroups(b)), two(impl.JoinedClicks(b)),
		two(impl.SameJoined(b)))
}

const joinedFail = "false [] false  false 0 false  false 0 false [] false 0 false [] false 0 false [] false"

// callJoinedCell calls those that take a board and a cell.
func callJoinedCell(b string, cell int) string {
	return told(two(impl.JoinedNeighbours(b, cell)), two(impl.JoinedOpened(b, cell)))
}

const joinedCellFail = "[] false [] false"

func TestOrdinaryJoinedBoards(t *testing.T) {
	b := ".**./...*/..../...."
	checkCases(t, []boardCase{
		{"IsJoined", told(impl.IsJoined(b)), "true"},
		{"JoinedNumbers", two(impl.JoinedNumbers(b)), "[2 1 2 2 2 2 3 1 1 0 1 1 1 2 2 1] true"},
		{"JoinedPicture", two(impl.JoinedPicture(b)), "2**2/223*/1011/1221 true"},
		{"JoinedSum", two(impl.JoinedSum(b)), "20 true"},
		{"ShiftBoard", two(impl.ShiftBoard(b, 3, 2)), "..../..../**../..*. true"},
		{"LeastShift", two(impl.LeastShift(b)), "**../..*./..../.... true"},
		{"CountShifts", two(impl.CountShifts(b)), "16 true"},
		{"ShiftsKept", two(impl.ShiftsKept(b)), "[[0 0]] true"},
		{"AreShifted", two(impl.AreShifted(b, "..../..../**../..*.")), "true true"},
		{"AreShifted, but mirrored", two(impl.AreShifted(b, ".**./*.../..../....")), "false true"},
		{"IsEven", two(impl.IsEven(b)), "0 false"},
		{"JoinedGroups", two(impl.JoinedGroups(b)), "[[1 2 7]] true"},
		{"JoinedOpened a zero", two(impl.JoinedOpened(b, 9)), "[4 5 6 8 9 10 12 13 14] true"},
		{"JoinedOpened another cell", two(impl.JoinedOpened(b, 4)), "[4] true"},
		{"JoinedOpened a mine", two(impl.JoinedOpened(b, 7)), "[] false"},
		{"JoinedClicks", two(impl.JoinedClicks(b)), "5 true"},
		{"SameJoined", two(impl.SameJoined("*.../..../..*./....")), "[*.../..../..*./.... ..*./..../*.../....] true"},
		{"EvenBoards", two(impl.EvenBoards(4, 4, 8)), "[****/****/****/****] true"},
	})
}

func TestJoinedNeighboursByPlace(t *testing.T) {
	small, unlike := ".../.../...", "...../...../...../....."
	checkCases(t, []boardCase{
		{"in the first corner of a small board", two(impl.JoinedNeighbours(small, 0)), "[1 2 3 4 5 6 7 8] true"},
		{"in the middle of a small board", two(impl.JoinedNeighbours(small, 4)), "[0 1 2 3 5 6 7 8] true"},
		{"in the first corner", two(impl.JoinedNeighbours(unlike, 0)), "[1 4 5 6 9 15 16 19] true"},
		{"in the second corner", two(impl.JoinedNeighbours(unlike, 4)), "[0 3 5 8 9 15 18 19] true"},
		{"in the third corner", two(impl.JoinedNeighbours(unlike, 15)), "[0 1 4 10 11 14 16 19] true"},
		{"in the last corner", two(impl.JoinedNeighbours(unlike, 19)), "[0 3 4 10 13 14 15 18] true"},
		{"at the upper edge", two(impl.JoinedNeighbours(unlike, 2)), "[1 3 6 7 8 16 17 18] true"},
		{"at the left edge", two(impl.JoinedNeighbours(unlike, 5)), "[0 1 4 6 9 10 11 14] true"},
		{"at the right edge", two(impl.JoinedNeighbours(unlike, 9)), "[0 3 4 5 8 10 13 14] true"},
		{"at the lower edge", two(impl.JoinedNeighbours(unlike, 17)), "[1 2 3 11 12 13 16 18] true"},
		{"inside", two(impl.JoinedNeighbours(unlike, 6)), "[0 1 2 5 7 10 11 12] true"},
		{"whether there are mines or not", two(impl.JoinedNeighbours("*..*./.**../*.*.*/*...*", 6)), "[0 1 2 5 7 10 11 12] true"},
		{"in the first corner of 8 by 8", two(impl.JoinedNeighbours(full("."), 0)), "[1 7 8 9 15 56 57 63] true"},
		{"in the last corner of 8 by 8", two(impl.JoinedNeighbours(full("*"), 63)), "[0 6 7 48 54 55 56 62] true"},
		{"in three rows of eight", two(impl.JoinedNeighbours("......../......../........", 8)), "[0 1 7 9 15 16 17 23] true"},
		{"in eight rows of three", two(impl.JoinedNeighbours(".../.../.../.../.../.../.../...", 1)), "[0 2 3 4 5 21 22 23] true"},
	})
}

// joinedShapes are sizes of joined boards: the least, the greatest, and unlike ones.
func joinedShapes() [][2]int {
	return [][2]int{{3, 3}, {3, 4}, {5, 3}, {4, 4}, {6, 5}, {3, 8}, {8, 3}, {7, 8}, {8, 8}}
}

// allShifts lists all right and down of a size.
func allShifts(width int, height int) [][]int {
	shifts := [][]int{}
	for right := range width {
		for down := range height {
			shifts = append(shifts, []int{right, down})
		}
	}
	return shifts
}

// TestJoinedBoardsWithoutMines: all is one opening without an edge.
func TestJoinedBoardsWithoutMines(t *testing.T) {
	for _, size := range joinedShapes() {
		b, cells := textOfBits(size[0], size[1], 0), upTo(size[0]*size[1])
		last := len(cells) - 1
		alike := "[" + b + "] true"
		if len(cells) > 16 {
			alike = "[] false"
		}
		checkCases(t, []boardCase{
			{"all of " + b, callJoined(b), told(
				true, make([]int, len(cells)), true, strings.ReplaceAll(b, ".", "0"), true, 0, true, b, true,
				1, true, allShifts(size[0], size[1]), true, 0, true, "[]", true, 1, true, alike)},
			{"ShiftBoard " + b, two(impl.ShiftBoard(b, 2, 1)), b + " true"},
			{"JoinedOpened " + b, two(impl.JoinedOpened(b, last)), told(cells, true)},
			{"AreShifted " + b, two(impl.AreShifted(b, b)), "true true"},
		})
	}
}

// TestJoinedBoardsWithoutFreeCells: no click is needed, and none can be made.
func TestJoinedBoardsWithoutFreeCells(t *testing.T) {
	for _, size := range joinedShapes() {
		b, cells := textOfBits(size[0], size[1], math.MaxUint64), upTo(size[0]*size[1])
		alike := "[" + b + "] true"
		if len(cells) > 16 {
			alike = "[] false"
		}
		checkCases(t, []boardCase{
			{"all of " + b, callJoined(b), told(
				true, slices.Repeat([]int{8}, len(cells)), true, b, true, 0, true, b, true,
				1, true, allShifts(size[0], size[1]), true, 8, true, [][]int{cells}, true, 0, true, alike)},
			{"ShiftBoard " + b, two(impl.ShiftBoard(b, 1, 2)), b + " true"},
			{"JoinedOpened " + b, two(impl.JoinedOpened(b, 0)), "[] false"},
			{"AreShifted " + b, two(impl.AreShifted(b, b)), "true true"},
		})
	}
}

// TestJoinedBoardsWithOneMine: wherever it is, eight cells around it have the number 1.
func TestJoinedBoardsWithOneMine(t *testing.T) {
	for _, size := range joinedShapes() {
		cells := size[0] * size[1]
		first := textOfBits(size[0], size[1], 1)
		for cell := range cells {
			b := textOfBits(size[0], size[1], 1<<cell)
			checkCases(t, []boardCase{
				{"JoinedSum " + b, two(impl.JoinedSum(b)), "8 true"},
				{"LeastShift " + b, two(impl.LeastShift(b)), first + " true"},
				{"CountShifts " + b, two(impl.CountShifts(b)), told(cells, true)},
				{"ShiftsKept " + b, two(impl.ShiftsKept(b)), "[[0 0]] true"},
				{"AreShifted " + b, two(impl.AreShifted(b, first)), "true true"},
				{"IsEven " + b, two(impl.IsEven(b)), "0 false"},
				{"JoinedGroups " + b, two(impl.JoinedGroups(b)), told([][]int{{cell}}, true)},
			})
		}
	}
	checkCases(t, []boardCase{
		{"JoinedPicture 8 by 8", two(impl.JoinedPicture("*" + full(".")[1:])), "*1000001/11000001/" + full("0")[18:62] + "/11000001 true"},
		{"JoinedClicks 3 by 3", two(impl.JoinedClicks(".../..*/...")), "8 true"},
		{"JoinedClicks 4 by 4", two(impl.JoinedClicks("..../..*./..../....")), "1 true"},
		{"JoinedClicks 8 by 3", two(impl.JoinedClicks("......../..*...../........")), "3 true"},
		{"JoinedClicks 8 by 8", two(impl.JoinedClicks("*" + full(".")[1:])), "1 true"},
		{"JoinedOpened beside it", two(impl.JoinedOpened("......../..*...../........", 2)), "[2] true"},
		{"JoinedOpened around", two(impl.JoinedOpened("......../..*...../........", 8)), "[0 1 3 4 5 6 7 8 9 11 12 13 14 15 16 17 19 20 21 22 23] true"},
	})
}

// TestGroupsThatHangTogetherAround: only around an edge, or around a corner.
func TestGroupsThatHangTogetherAround(t *testing.T) {
	cases := []struct {
		b      string
		apart  string
		joined string
	}{
		{"*..*/..../....", "[[0] [3]]", "[[0 3]]"},
		{"..../..*./*..*/....", "[[6 11] [8]]", "[[6 8 11]]"},
		{"*.../..../..../*...", "[[0] [12]]", "[[0 12]]"},
		{"*.../..../..../...*", "[[0] [15]]", "[[0 15]]"},
		{"...*/..../..../*...", "[[3] [12]]", "[[3 12]]"},
		{".*../..../..../..*.", "[[1] [14]]", "[[1 14]]"},
		{"..../*.../...*/....", "[[4] [11]]", "[[4 11]]"},
		{"*..*/..../..../*..*", "[[0] [3] [12] [15]]", "[[0 3 12 15]]"},
		{"*.../..../..*./....", "[[0] [10]]", "[[0] [10]]"},
		{"..**./....*/*..../.....", "[[2 3 9] [10]]", "[[2 3 9 10]]"},
		{"...../.*.../...*./....*/*....", "[[6] [13 19] [20]]", "[[6] [13 19 20]]"},
		{"*..../...../...../...../*....", "[[0] [20]]", "[[0 20]]"},
		{"..*...*./..*...*./..*...*.", "[[2 10 18] [6 14 22]]", "[[2 10 18] [6 14 22]]"},
	}
	for _, c := range cases {
		checkCases(t, []boardCase{
			{"GroupsOfMines " + c.b, two(impl.GroupsOfMines(c.b)), c.apart + " true"},
			{"JoinedGroups " + c.b, two(impl.JoinedGroups(c.b)), c.joined + " true"},
		})
	}
}

// TestOpeningsThatHangTogetherAround: only around an edge, or around a corner, and some that do not.
func TestOpeningsThatHangTogetherAround(t *testing.T) {
	cases := []struct {
		what   string
		b      string
		cell   int
		opened string
		clicks int
	}{
		{"around the sides", "..*../..*../..*../..*../..*..", 4, "[0 1 3 4 5 6 8 9 10 11 13 14 15 16 18 19 20 21 23 24]", 1},
		{"around top and bottom", "...../...../*****/...../.....", 24, "[0 1 2 3 4 5 6 7 8 9 15 16 17 18 19 20 21 22 23 24]", 1},
		{"around a corner", "..../..*./.*../....", 15, "[0 1 2 3 4 5 7 8 10 11 12 13 14 15]", 1},
		{"around the other corner", "..../.*../..*./....", 3, "[0 1 2 3 4 6 7 8 9 11 12 13 14 15]", 1},
		{"around top and bottom at a slant", "...../.*.../...*./....*/*....", 3, "[1 2 3 4 7 8 9 16 17 18 21 22 23 24]", 8},
		{"a single zero at an edge", ".*../.*../.*../.*..", 3, "[0 2 3 4 6 7 8 10 11 12 14 15]", 1},
		{"a single zero at a corner, and another one", "..../.*../..../...*", 13, "[0 1 2 8 9 10 12 13 14]", 2},
		{"two in a row", "..*...*./..*...*./..*...*.", 16, "[0 1 7 8 9 15 16 17 23]", 2},
		{"two in a column", ".../.../***/.../.../.../***/...", 2, "[0 1 2 3 4 5 21 22 23]", 2},
		{"an edge around", "..../..*./.*../....", 3, "[3]", 1},
		{"no zero", "*../.*./..*", 1, "[1]", 6},
		{"a single free cell", "***/*.*/***", 4, "[4]", 1},
	}
	for _, c := range cases {
		checkCases(t, []boardCase{
			{"JoinedOpened " + c.what, two(impl.JoinedOpened(c.b, c.cell)), c.opened + " true"},
			{"JoinedClicks " + c.what, two(impl.JoinedClicks(c.b)), told(c.clicks, true)},
		})
	}
	checkCases(t, []boardCase{
		{"FewestClicks of the first one, whose sides chapter 2 does not join", two(impl.FewestClicks("..*../..*../..*../..*../..*..")), "2 true"},
		{"FewestClicks of the third one, whose corners chapter 2 does not join", two(impl.FewestClicks("..../..*./.*../....")), "8 true"},
	})
}

// TestShiftsByTheirLimits: by none, by one, and by one less than there are, to either side.
func TestShiftsByTheirLimits(t *testing.T) {
	b := "*..*./.**../*.*.*/*...*"
	checkCases(t, []boardCase{
		{"by none", two(impl.ShiftBoard(b, 0, 0)), b + " true"},
		{"to the right", two(impl.ShiftBoard(b, 1, 0)), ".*..*/..**./**.*./**... true"},
		{"down", two(impl.ShiftBoard(b, 0, 1)), "*...*/*..*./.**../*.*.* true"},
		{"by one", two(impl.ShiftBoard(b, 1, 1)), "**.../.*..*/..**./**.*. true"},
		{"to the right as far as may be", two(impl.ShiftBoard(b, 4, 0)), "..*.*/**.../.*.**/...** true"},
		{"down as far as may be", two(impl.ShiftBoard(b, 0, 3)), ".**../*.*.*/*...*/*..*. true"},
		{"as far as may be", two(impl.ShiftBoard(b, 4, 3)), "**.../.*.**/...**/..*.* true"},
		{"too far to the right", two(impl.ShiftBoard(b, 5, 0)), " false"},
		{"too far down", two(impl.ShiftBoard(b, 0, 4)), " false"},
		{"LeastShift", two(impl.LeastShift(b)), "**.*./**.../.*..*/..**. true"},
		{"a row around in 8 by 8", two(impl.ShiftBoard(full(".")[:70]+"*", 7, 7)), full(".")[:60] + "*./........ true"},
		{"a corner around in 8 by 8", two(impl.ShiftBoard(full(".")[:70]+"*", 1, 1)), "*" + full(".")[1:] + " true"},
		{"three by three", two(impl.ShiftBoard("*../.*./...", 2, 2)), "*../.../..* true"},
	})
}

// TestBoardsKeptByShifts: by no other shift, by some, and by all.
func TestBoardsKeptByShifts(t *testing.T) {
	cases := []struct {
		b     string
		least string
		count int
		kept  string
	}{
		{"..*../*..../.....", "*..../...*./.....", 15, "[[0 0]]"},
		{"..../..../...*/..*.", "*.../...*/..../....", 16, "[[0 0]]"},
		{"****/****/****/*.**", "****/****/****/***.", 16, "[[0 0]]"},
		{".../***/...", "***/.../...", 3, "[[0 0] [1 0] [2 0]]"},
		{"..*/..*/..*", "*../*../*..", 3, "[[0 0] [0 1] [0 2]]"},
		{"..*/*../.*.", "*../.*./..*", 3, "[[0 0] [1 1] [2 2]]"},
		{"..*/.*./*..", "*../..*/.*.", 3, "[[0 0] [1 2] [2 1]]"},
		{"..*..*/....../..*..*/......", "*..*../....../*..*../......", 6, "[[0 0] [0 2] [3 0] [3 2]]"},
		{".*.*/*.*./.*.*/*.*.", "*.*./.*.*/*.*./.*.*", 2, "[[0 0] [0 2] [1 1] [1 3] [2 0] [2 2] [3 1] [3 3]]"},
		{"..../.*../..../...*", "*.../..../..*./....", 8, "[[0 0] [2 2]]"},
		{"...*...*/...*...*/...*...*", "*...*.../*...*.../*...*...", 4, "[[0 0] [0 1] [0 2] [4 0] [4 1] [4 2]]"},
		{".../.../***/.../.../.../***/...", "***/.../.../.../***/.../.../...", 4, "[[0 0] [0 4] [1 0] [1 4] [2 0] [2 4]]"},
		{".../.../.../.../...", ".../.../.../.../...", 1, told(allShifts(3, 5))},
		{"****/****/****", "****/****/****", 1, told(allShifts(4, 3))},
	}
	for _, c := range cases {
		checkCases(t, []boardCase{
			{"LeastShift " + c.b, two(impl.LeastShift(c.b)), told(c.least, true)},
			{"CountShifts " + c.b, two(impl.CountShifts(c.b)), told(c.count, true)},
			{"ShiftsKept " + c.b, two(impl.ShiftsKept(c.b)), told(c.kept, true)},
		})
	}
}

func TestAreShifted(t *testing.T) {
	cases := []struct {
		what string
		a    string
		b    string
		want string
	}{
		{"itself", "..*../*..../.....", "..*../*..../.....", "true true"},
		{"to the right", "..*../*..../.....", "...*./.*.../.....", "true true"},
		{"down and around", "..*../*..../.....", "*..../...../..*..", "true true"},
		{"another place", "..*../*..../.....", "..*../.*.../.....", "false true"},
		{"upside down", "..*../*..../.....", "*..../..*../.....", "false true"},
		{"turned", "***/.../...", "*../*../*..", "false true"},
		{"more mines", "*../.../...", "*../.*./...", "false true"},
		{"no mines", "*../.../...", ".../.../...", "false true"},
		{"the two that are even by slants", "*../.*./..*", "*../..*/.*.", "false true"},
		{"wider", ".../.../...", "..../..../....", "false true"},
		{"wider with the same rows", "*../*../*..", "*.../*.../*...", "false true"},
		{"higher", "*../.../...", "*../.../.../...", "false true"},
		{"as many cells", "*.../..../....", "*../.../.../...", "false true"},
		{"as many cells, and all mines", "****/****/****", "***/***/***/***", "false true"},
		{"a text that is none", "*../.../...", "*../...", "false false"},
		{"a single row", "*../.../...", "*..", "false false"},
		{"a text with another sign", "*../.../...", "*../.?./...", "false false"},
		{"nothing", "*../.../...", "", "false false"},
		{"two texts that are none", "*../...", "*../...", "false false"},
	}
	for _, c := range cases {
		checkCases(t, []boardCase{
			{"AreShifted " + c.what, two(impl.AreShifted(c.a, c.b)), c.want},
			{"AreShifted the other way: " + c.what, two(impl.AreShifted(c.b, c.a)), c.want},
		})
	}
}

func TestIsEvenOrNot(t *testing.T) {
	checkCases(t, []boardCase{
		{"no mines", two(impl.IsEven("..../..../....")), "0 true"},
		{"mines alone", two(impl.IsEven("*****/*****/*****")), "8 true"},
		{"slants", two(impl.IsEven("*.../.*../..*./...*")), "2 true"},
		{"every second cell", two(impl.IsEven("*.*./.*.*/*.*./.*.*")), "4 true"},
		{"squares", two(impl.IsEven("**../**../..**/..**")), "4 true"},
		{"slants of free cells", two(impl.IsEven(".***/*.**/**.*/***.")), "6 true"},
		{"slants in 8 by 8", two(impl.IsEven(strings.Repeat("*...*.../.*...*../..*...*./...*...*/", 2)[:71])), "2 true"},
		{"slants of free cells in 4 by 8", two(impl.IsEven(strings.Repeat(".***/*.**/**.*/***./", 2)[:39])), "6 true"},
		{"free cells that have the same, and mines that have not", two(impl.IsEven("***/.../...")), "0 false"},
		{"all the same but for the first cell", two(impl.IsEven("*../.../...")), "0 false"},
		{"all the same but for the last cell", two(impl.IsEven("***/***/**.")), "0 false"},
		{"the same in turns", two(impl.IsEven("*.../*.../*.../*...")), "0 false"},
	})
}

// TestSameNumbersAround: boards with the same numbers as others, and with none.
func TestSameNumbersAround(t *testing.T) {
	slants := "*.../.*../..*./...* *.../...*/..*./.*.. .*../*.../...*/..*. .*../..*./...*/*... ..*./.*../*.../...* ..*./...*/*.../.*.. ...*/*.../.*../..*. ...*/..*./.*../*..."
	checkCases(t, []boardCase{
		{"two", two(impl.SameJoined("..*./..../*.../....")), "[*.../..../..*./.... ..*./..../*.../....] true"},
		{"two of free cells", two(impl.SameJoined("****/*.**/****/***.")), "[****/***./****/*.** ****/*.**/****/***.] true"},
		{"eight", two(impl.SameJoined("..*./...*/*.../.*..")), "[" + slants + "] true"},
		{"none but it, of one mine", two(impl.SameJoined("..../.*../..../....")), "[..../.*../..../....] true"},
		{"none but it, of two mines", two(impl.SameJoined("*.*./..../..../....")), "[*.*./..../..../....] true"},
		{"none but it, of four mines", two(impl.SameJoined("*.*./..../*.*./....")), "[*.*./..../*.*./....] true"},
		{"three by three", two(impl.SameJoined("*.*/.*./..*")), "[*.*/.*./..*] true"},
		{"three by four", two(impl.SameJoined("*.*/.*./..*/...")), "[*.*/.*./..*/...] true"},
		{"four by three", two(impl.SameJoined("*.*./.*../..*.")), "[*.*./.*../..*.] true"},
		{"three by five", two(impl.SameJoined("*.*/.*./..*/.../..*")), "[*.*/.*./..*/.../..*] true"},
		{"five by three", two(impl.SameJoined("*.*../.*..*/..*..")), "[*.*../.*..*/..*..] true"},
	})
	// There are no 17 cells in rows of three or more, so that eighteen and more stand for too many.
	for _, size := range [][2]int{{3, 6}, {6, 3}, {4, 5}, {5, 4}, {3, 8}, {5, 5}, {8, 8}} {
		for _, mines := range []uint64{0, 1, 6, math.MaxUint64} {
			b := textOfBits(size[0], size[1], mines)
			checkCases(t, []boardCase{{"SameJoined " + b, two(impl.SameJoined(b)), "[] false"}})
		}
	}
	if boards, ok := impl.SameJoined("*.*./.*.*/*.*./.*.*"); !ok || len(boards) != 18 {
		t.Errorf("SameJoined of every second cell: %v", boards)
	}
}

// TestEvenBoardsOfEachNumber: there are none of most numbers, and just two of all in most sizes.
func TestEvenBoardsOfEachNumber(t *testing.T) {
	slants := "*.../.*../..*./...* *.../...*/..*./.*.. .*../*.../...*/..*. .*../..*./...*/*... ..*./.*../*.../...* ..*./...*/*.../.*.. ...*/*.../.*../..*. ...*/..*./.*../*..."
	halves := "**../**../..**/..** **../*..*/..**/.**. **../.**./..**/*..* **../..**/..**/**.. *.*./.*.*/*.*./.*.* *..*/**../.**./..** *..*/*..*/.**./.**. *..*/.**./.**./*..* *..*/..**/.**./**.. " +
		".**./**../*..*/..** .**./*..*/*..*/.**. .**./.**./*..*/*..* .**./..**/*..*/**.. .*.*/*.*./.*.*/*.*. ..**/**../**../..** ..**/*..*/**../.**. ..**/.**./**../*..* ..**/..**/**../**.."
	freeSlants := "***./**.*/*.**/.*** ***./.***/*.**/**.* **.*/***./.***/*.** **.*/*.**/.***/***. *.**/**.*/***./.*** *.**/.***/***./**.* .***/***./**.*/*.** .***/*.**/**.*/***."
	for number, want := range []string{"..../..../..../....", "", slants, "", halves, "", freeSlants, "", "****/****/****/****"} {
		checkCases(t, []boardCase{{fmt.Sprint("EvenBoards 4 4 ", number), two(impl.EvenBoards(4, 4, number)), "[" + want + "] true"}})
	}
	for _, size := range [][2]int{{3, 3}, {3, 4}, {4, 3}, {3, 5}, {5, 3}} {
		for number := range 9 {
			want := "[] true"
			if number == 0 || number == 8 {
				want = "[" + textOfBits(size[0], size[1], -uint64(number/8)) + "] true"
			}
			checkCases(t, []boardCase{{fmt.Sprint("EvenBoards ", size, number), two(impl.EvenBoards(size[0], size[1], number)), want}})
		}
	}
}

func TestEvenBoardsThatFail(t *testing.T) {
	sides := append(oddInts(), 2, 3, 4, 5, 6, math.MaxInt/2+2, 1<<60|4)
	for _, width := range sides {
		for _, height := range sides {
			if width >= 3 && width <= 5 && height >= 3 && height <= 5 && width*height <= 16 {
				continue
			}
			for _, number := range []int{0, 8, 2} {
				checkCases(t, []boardCase{{fmt.Sprint("EvenBoards ", width, height, number), two(impl.EvenBoards(width, height, number)), "[] false"}})
			}
		}
	}
	for _, number := range []int{-1, 9, 10, -8, 16, 256, 264, math.MinInt, math.MaxInt, 1 << 32} {
		for _, size := range [][2]int{{3, 3}, {3, 5}, {4, 4}, {5, 5}} {
			checkCases(t, []boardCase{{fmt.Sprint("EvenBoards ", size, number), two(impl.EvenBoards(size[0], size[1], number)), "[] false"}})
		}
	}
}

// noJoinedBoards are boards that are no joined ones: with fewer than three rows, or cells in a row.
func noJoinedBoards() []string {
	return []string{
		".", "*", "..", "./*", "*../...", "../../..", "../../*.", ".*", "...", "*..*....", "......../........", "../.*/../../../../../..",
		"./././././././.", "*/*/*", "**/**", "**/**/**", "***/***", "********/********",
	}
}

func TestNoJoinedBoardsFail(t *testing.T) {
	for _, s := range append(noBoards(), noJoinedBoards()...) {
		checkCases(t, []boardCase{
			{"all of " + s, callJoined(s), joinedFail},
			{"a cell of " + s, callJoinedCell(s, 0), joinedCellFail},
			{"another cell of " + s, callJoinedCell(s, 1), joinedCellFail},
			{"ShiftBoard " + s, two(impl.ShiftBoard(s, 0, 0)), " false"},
			{"ShiftBoard by one " + s, two(impl.ShiftBoard(s, 1, 0)), " false"},
			{"AreShifted " + s, two(impl.AreShifted(s, s)), "false false"},
			{"AreShifted with a board " + s, two(impl.AreShifted(s, ".../.../...")), "false false"},
			{"AreShifted of a board " + s, two(impl.AreShifted(".../.../...", s)), "false false"},
		})
	}
}

func TestIsJoinedOfAllSizes(t *testing.T) {
	for width := 1; width <= 9; width++ {
		for height := 1; height <= 9; height++ {
			b := strings.TrimSuffix(strings.Repeat(strings.Repeat("*", width)+"/", height), "/")
			want := width >= 3 && width <= 8 && height >= 3 && height <= 8
			if got := impl.IsJoined(b); got != want {
				t.Errorf("IsJoined %s: %v, want %v", b, got, want)
			}
		}
	}
}

func TestJoinedCellsThatThereAreNot(t *testing.T) {
	for _, b := range []string{".../.../...", "***/***/***", "*..*./.**../*.*.*/*...*", "......../......../........", full("."), full("*")} {
		for _, cell := range append(oddInts(), 2, 10, 20, 24, 71) {
			m := joinedOf(b)
			near, opened := cell >= 0 && cell < m.cells(), false
			if near {
				opened = m.isFree(cell)
			}
			_, ok := impl.JoinedNeighbours(b, cell)
			same(t, fmt.Sprintf("JoinedNeighbours %s %d succeeds", b, cell), ok, true, near)
			_, ok = impl.JoinedOpened(b, cell)
			same(t, fmt.Sprintf("JoinedOpened %s %d succeeds", b, cell), ok, true, opened)
			if !near {
				checkCases(t, []boardCase{{fmt.Sprintf("%s %d", b, cell), callJoinedCell(b, cell), joinedCellFail}})
			}
		}
	}
}

func TestShiftsThatThereAreNot(t *testing.T) {
	for _, b := range []string{".../.../...", "*..*./.**../*.*.*/*...*", ".../.../.../.../.../.../...", "....../*...../......", full("*")} {
		m := modelOf(b)
		for _, right := range append(oddInts(), 2, 3, 4, 5, 6) {
			for _, down := range append(oddInts(), 2, 3, 4, 5, 6) {
				if right >= 0 && right < m.width && down >= 0 && down < m.height {
					continue
				}
				checkCases(t, []boardCase{{fmt.Sprint("ShiftBoard ", b, right, down), two(impl.ShiftBoard(b, right, down)), " false"}})
			}
		}
	}
}
