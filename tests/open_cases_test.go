package tests

import (
	"fmt"
	"math"
	"slices"
	"strings"
	"testing"

	"loop.example/g01294/impl"
)

// upTo lists the cells 0, 1, .. before a count.
func upTo(count int) []int {
	cells := make([]int, count)
	for cell := range cells {
		cells[cell] = cell
	}
	return cells
}

func TestOpenExample(t *testing.T) {
	b := "*../.../..*"
	checkCases(t, []boardCase{
		{"OpeningsOf", two(impl.OpeningsOf(b)), "[[1 2 4 5] [3 4 6 7]] true"},
		{"SharedCells", two(impl.SharedCells(b)), "[4] true"},
		{"FewestClicks", two(impl.FewestClicks(b)), "2 true"},
		{"FirstClicks", two(impl.FirstClicks(b)), "[2 6] true"},
		{"SeenAfter 1", two(impl.SeenAfter(b, []int{1})), "?1?/???/??? true"},
		{"SeenAfter 2", two(impl.SeenAfter(b, []int{2})), "?10/?21/??? true"},
		{"CellsAlone .*.", two(impl.CellsAlone(".*.")), "[0 2] true"},
	})
}

func TestOrdinaryOpenings(t *testing.T) {
	b := "..*.*./....../*....."
	checkCases(t, []boardCase{
		{"OpenedBy a zero", two(impl.OpenedBy(b, 0)), "[0 1 6 7] true"},
		{"OpenedBy another zero", two(impl.OpenedBy(b, 16)), "[7 8 9 10 11 13 14 15 16 17] true"},
		{"OpenedBy an edge", two(impl.OpenedBy(b, 7)), "[7] true"},
		{"OpenedBy a cell alone", two(impl.OpenedBy(b, 3)), "[3] true"},
		{"OpenedBy a mine", two(impl.OpenedBy(b, 2)), "[] false"},
		{"OpeningsOf", two(impl.OpeningsOf(b)), "[[0 1 6 7] [7 8 9 10 11 13 14 15 16 17]] true"},
		{"CountOpenings", two(impl.CountOpenings(b)), "2 true"},
		{"EdgeOfOpening", two(impl.EdgeOfOpening(b, 0)), "[1 6 7] true"},
		{"EdgeOfOpening, from its last zero", two(impl.EdgeOfOpening(b, 17)), "[7 8 9 10 11 13] true"},
		{"EdgeOfOpening of an edge", two(impl.EdgeOfOpening(b, 7)), "[] false"},
		{"EdgeOfOpening of a cell alone", two(impl.EdgeOfOpening(b, 3)), "[] false"},
		{"EdgeOfOpening of a mine with the number 0", two(impl.EdgeOfOpening(b, 12)), "[] false"},
		{"CellsAlone", two(impl.CellsAlone(b)), "[3 5] true"},
		{"FewestClicks", two(impl.FewestClicks(b)), "4 true"},
		{"FirstClicks", two(impl.FirstClicks(b)), "[0 3 5 14] true"},
		{"LargestOpening", two(impl.LargestOpening(b)), "[7 8 9 10 11 13 14 15 16 17] true"},
		{"BestClicks", three(impl.BestClicks(b)), "[14 15 16 17] 10 true"},
		{"OpeningsWith a zero", two(impl.OpeningsWith(b, 15)), "[1] true"},
		{"OpeningsWith a cell in both", two(impl.OpeningsWith(b, 7)), "[0 1] true"},
		{"OpeningsWith a cell alone", two(impl.OpeningsWith(b, 5)), "[] true"},
		{"OpeningsWith a mine", two(impl.OpeningsWith(b, 4)), "[] false"},
		{"SharedCells", two(impl.SharedCells(b)), "[7] true"},
	})
}

func TestOrdinaryClicks(t *testing.T) {
	b := "..*.*./....../*....."
	checkCases(t, []boardCase{
		{"OpenAfter", two(impl.OpenAfter(b, []int{3, 0})), "[0 1 3 6 7] true"},
		{"OpenAfter, an edge before its zero", two(impl.OpenAfter(b, []int{7, 0})), "[0 1 6 7] true"},
		{"AreAllOpen but for one", two(impl.AreAllOpen(b, []int{0, 3, 14})), "false true"},
		{"AreAllOpen", two(impl.AreAllOpen(b, []int{17, 5, 3, 0})), "true true"},
		{"NeedlessClicks", two(impl.NeedlessClicks(b, []int{3, 0, 7, 3, 14, 17, 5, 9})), "[2 3 5 7] true"},
		{"NeedlessClicks, an edge before its zero", two(impl.NeedlessClicks(b, []int{7, 0, 7, 16})), "[2] true"},
		{"NeedlessClicks, all edges before their zero", two(impl.NeedlessClicks(b, []int{7, 6, 1, 0, 0})), "[4] true"},
		{"SeenAfter", two(impl.SeenAfter(b, []int{3, 0})), "01?2??/12????/?????? true"},
		{"SeenAfter all", two(impl.SeenAfter(b, []int{0, 3, 5, 14})), "01?2?1/121211/?10000 true"},
		{"ClicksNeeded behind none", two(impl.ClicksNeeded(b, nil)), "4 true"},
		{"ClicksNeeded behind an edge", two(impl.ClicksNeeded(b, []int{7, 1, 6, 8})), "4 true"},
		{"ClicksNeeded behind a cell alone", two(impl.ClicksNeeded(b, []int{7, 3})), "3 true"},
		{"ClicksNeeded behind the last zero", two(impl.ClicksNeeded(b, []int{17, 14})), "3 true"},
		{"ClicksNeeded behind all", two(impl.ClicksNeeded(b, []int{5, 16, 3, 0})), "0 true"},
	})
}

// TestAsManyCells: of several openings the first one is the largest, and all clicks are best that open as many cells.
func TestAsManyCells(t *testing.T) {
	checkCases(t, []boardCase{
		{"LargestOpening of two", two(impl.LargestOpening("*../.../..*")), "[1 2 4 5] true"},
		{"BestClicks of two", three(impl.BestClicks("*../.../..*")), "[2 6] 4 true"},
		{"LargestOpening in a row", two(impl.LargestOpening("..*..*..")), "[0 1] true"},
		{"BestClicks in a row", three(impl.BestClicks("..*..*..")), "[0 7] 2 true"},
		{"LargestOpening behind a smaller one", two(impl.LargestOpening("..*...*.")), "[3 4 5] true"},
		{"BestClicks behind a smaller opening", three(impl.BestClicks("..*...*.")), "[4] 3 true"},
		{"BestClicks without zeros", three(impl.BestClicks("*.*.*")), "[1 3] 1 true"},
	})
}

// TestOpeningsThatMeet: zeros that touch at a corner are in one opening, those that only share an edge are not.
func TestOpeningsThatMeet(t *testing.T) {
	corner, five := "...*/..../..../*...", "..*../...../*...*/...../..*.."
	checkCases(t, []boardCase{
		{"OpeningsOf zeros that touch at a corner", two(impl.OpeningsOf(corner)), "[[0 1 2 4 5 6 7 8 9 10 11 13 14 15]] true"},
		{"EdgeOfOpening of them", two(impl.EdgeOfOpening(corner, 10)), "[2 6 7 8 9 13] true"},
		{"OpeningsOf five", two(impl.OpeningsOf(five)), "[[0 1 5 6] [3 4 8 9] [6 7 8 11 12 13 16 17 18] [15 16 20 21] [18 19 23 24]] true"},
		{"FirstClicks of five", two(impl.FirstClicks(five)), "[0 4 12 20 24] true"},
		{"SharedCells of five", two(impl.SharedCells(five)), "[6 8 16 18] true"},
		{"OpeningsWith the first shared one", two(impl.OpeningsWith(five, 6)), "[0 2] true"},
		{"OpeningsWith the last shared one", two(impl.OpeningsWith(five, 18)), "[2 4] true"},
		{"LargestOpening of five", two(impl.LargestOpening(five)), "[6 7 8 11 12 13 16 17 18] true"},
		{"OpenAfter a shared cell", two(impl.OpenAfter(five, []int{6})), "[6] true"},
		{"ClicksNeeded behind a shared cell", two(impl.ClicksNeeded(five, []int{6, 18})), "5 true"},
		{"ClicksNeeded behind the middle", two(impl.ClicksNeeded(five, []int{6, 12})), "4 true"},
		{"NeedlessClicks on a shared cell", two(impl.NeedlessClicks(five, []int{6, 12, 0, 6})), "[3] true"},
	})
}

// TestBoardsWithoutFreeCells: nothing is open, and that is all there is.
func TestBoardsWithoutFreeCells(t *testing.T) {
	for _, b := range []string{"*", "**", "*/*", "***/***/***", "********", full("*")} {
		checkCases(t, []boardCase{
			{"OpenedBy " + b, two(impl.OpenedBy(b, 0)), "[] false"},
			{"OpeningsOf " + b, two(impl.OpeningsOf(b)), "[] true"},
			{"CountOpenings " + b, two(impl.CountOpenings(b)), "0 true"},
			{"EdgeOfOpening " + b, two(impl.EdgeOfOpening(b, 0)), "[] false"},
			{"CellsAlone " + b, two(impl.CellsAlone(b)), "[] true"},
			{"FewestClicks " + b, two(impl.FewestClicks(b)), "0 true"},
			{"FirstClicks " + b, two(impl.FirstClicks(b)), "[] true"},
			{"OpenAfter " + b, two(impl.OpenAfter(b, nil)), "[] true"},
			{"AreAllOpen " + b, two(impl.AreAllOpen(b, nil)), "true true"},
			{"AreAllOpen with a click " + b, two(impl.AreAllOpen(b, []int{0})), "false false"},
			{"NeedlessClicks " + b, two(impl.NeedlessClicks(b, nil)), "[] true"},
			{"SeenAfter " + b, two(impl.SeenAfter(b, nil)), strings.ReplaceAll(b, "*", "?") + " true"},
			{"LargestOpening " + b, two(impl.LargestOpening(b)), "[] false"},
			{"BestClicks " + b, three(impl.BestClicks(b)), "[] 0 false"},
			{"OpeningsWith " + b, two(impl.OpeningsWith(b, 0)), "[] false"},
			{"SharedCells " + b, two(impl.SharedCells(b)), "[] true"},
			{"ClicksNeeded " + b, two(impl.ClicksNeeded(b, nil)), "0 true"},
		})
	}
}

// TestBoardsWithoutZeros: each free cell is alone.
func TestBoardsWithoutZeros(t *testing.T) {
	b := ".*./*.*/.*."
	checkCases(t, []boardCase{
		{"OpenedBy", two(impl.OpenedBy(b, 4)), "[4] true"},
		{"OpeningsOf", two(impl.OpeningsOf(b)), "[] true"},
		{"EdgeOfOpening", two(impl.EdgeOfOpening(b, 4)), "[] false"},
		{"CellsAlone", two(impl.CellsAlone(b)), "[0 2 4 6 8] true"},
		{"FewestClicks", two(impl.FewestClicks(b)), "5 true"},
		{"FirstClicks", two(impl.FirstClicks(b)), "[0 2 4 6 8] true"},
		{"AreAllOpen", two(impl.AreAllOpen(b, []int{8, 6, 4, 2, 0})), "true true"},
		{"SeenAfter", two(impl.SeenAfter(b, []int{4, 8})), "???/?4?/??2 true"},
		{"LargestOpening", two(impl.LargestOpening(b)), "[] false"},
		{"BestClicks", three(impl.BestClicks(b)), "[0 2 4 6 8] 1 true"},
		{"OpeningsWith", two(impl.OpeningsWith(b, 4)), "[] true"},
		{"SharedCells", two(impl.SharedCells(b)), "[] true"},
		{"ClicksNeeded", two(impl.ClicksNeeded(b, []int{2, 2, 6})), "3 true"},
		{"LargestOpening of no zeros in a column", two(impl.LargestOpening("./*")), "[] false"},
	})
}

// TestBoardsWithoutMines: all cells are in one opening without an edge, a single cell among them.
func TestBoardsWithoutMines(t *testing.T) {
	for _, b := range []string{".", "..", "./.", ".../...", "........", "./././././././.", full(".")} {
		cells := upTo(modelOf(b).cells())
		last := len(cells) - 1
		checkCases(t, []boardCase{
			{"OpenedBy " + b, two(impl.OpenedBy(b, last)), told(cells, true)},
			{"OpeningsOf " + b, two(impl.OpeningsOf(b)), told([][]int{cells}, true)},
			{"CountOpenings " + b, two(impl.CountOpenings(b)), "1 true"},
			{"EdgeOfOpening " + b, two(impl.EdgeOfOpening(b, last)), "[] true"},
			{"CellsAlone " + b, two(impl.CellsAlone(b)), "[] true"},
			{"FewestClicks " + b, two(impl.FewestClicks(b)), "1 true"},
			{"FirstClicks " + b, two(impl.FirstClicks(b)), "[0] true"},
			{"OpenAfter none " + b, two(impl.OpenAfter(b, nil)), "[] true"},
			{"AreAllOpen behind none " + b, two(impl.AreAllOpen(b, []int{})), "false true"},
			{"AreAllOpen " + b, two(impl.AreAllOpen(b, []int{last})), "true true"},
			{"NeedlessClicks " + b, two(impl.NeedlessClicks(b, []int{last, 0, last})), "[1 2] true"},
			{"SeenAfter none " + b, two(impl.SeenAfter(b, nil)), strings.ReplaceAll(b, ".", "?") + " true"},
			{"SeenAfter " + b, two(impl.SeenAfter(b, []int{0})), strings.ReplaceAll(b, ".", "0") + " true"},
			{"LargestOpening " + b, two(impl.LargestOpening(b)), told(cells, true)},
			{"BestClicks " + b, three(impl.BestClicks(b)), told(cells, len(cells), true)},
			{"OpeningsWith " + b, two(impl.OpeningsWith(b, last)), "[0] true"},
			{"SharedCells " + b, two(impl.SharedCells(b)), "[] true"},
			{"ClicksNeeded behind none " + b, two(impl.ClicksNeeded(b, nil)), "1 true"},
			{"ClicksNeeded " + b, two(impl.ClicksNeeded(b, []int{last})), "0 true"},
		})
	}
}

func TestOpenRowsAndColumns(t *testing.T) {
	for _, b := range []string{"...*.*..", "./././*/./*/./."} {
		checkCases(t, []boardCase{
			{"OpenedBy " + b, two(impl.OpenedBy(b, 1)), "[0 1 2] true"},
			{"OpeningsOf " + b, two(impl.OpeningsOf(b)), "[[0 1 2] [6 7]] true"},
			{"EdgeOfOpening " + b, two(impl.EdgeOfOpening(b, 7)), "[6] true"},
			{"CellsAlone " + b, two(impl.CellsAlone(b)), "[4] true"},
			{"FirstClicks " + b, two(impl.FirstClicks(b)), "[0 4 7] true"},
			{"OpenAfter " + b, two(impl.OpenAfter(b, []int{7, 4, 2})), "[2 4 6 7] true"},
			{"NeedlessClicks " + b, two(impl.NeedlessClicks(b, []int{2, 0, 1, 7, 6})), "[2 4] true"},
			{"BestClicks " + b, three(impl.BestClicks(b)), "[0 1] 3 true"},
			{"ClicksNeeded " + b, two(impl.ClicksNeeded(b, []int{6})), "3 true"},
		})
	}
	checkCases(t, []boardCase{
		{"SeenAfter in a row", two(impl.SeenAfter("...*.*..", []int{4, 0})), "001?2??? true"},
		{"SeenAfter in a column", two(impl.SeenAfter("./././*/./*/./.", []int{4, 0})), "0/0/1/?/2/?/?/? true"},
	})
}

// callWithClicks calls every function of chapter 2 that takes clicks, and tells what they return.
func callWithClicks(b string, clicks []int) string {
	return told(
		two(impl.OpenAfter(b, clicks)), two(impl.AreAllOpen(b, clicks)), two(impl.NeedlessClicks(b, clicks)),
		two(impl.SeenAfter(b, clicks)), two(impl.ClicksNeeded(b, clicks)))
}

const clicksFail = "[] false false false [] false  false 0 false"

// TestNumberOfClicks: there may be MaxClicks clicks, and not one more.
func TestNumberOfClicks(t *testing.T) {
	checkCases(t, []boardCase{{"MaxClicks", fmt.Sprint(impl.MaxClicks), "64"}})
	for _, b := range []string{".", ".*.", "*../.../..*", full(".")} {
		free := modelOf(b).pick(modelOf(b).isFree)
		var clicks []int
		for len(clicks) < impl.MaxClicks {
			clicks = append(clicks, free[len(clicks)%len(free)])
		}
		checkCases(t, []boardCase{
			{"OpenAfter MaxClicks " + b, two(impl.OpenAfter(b, clicks)), told(free, true)},
			{"AreAllOpen behind MaxClicks " + b, two(impl.AreAllOpen(b, clicks)), "true true"},
			{"NeedlessClicks of MaxClicks " + b, two(impl.NeedlessClicks(b, clicks)), told(openingOf(b).needless(clicks), true)},
			{"ClicksNeeded behind MaxClicks " + b, two(impl.ClicksNeeded(b, clicks)), "0 true"},
			{"one click more " + b, callWithClicks(b, append(clicks, free[0])), clicksFail},
			{"many clicks " + b, callWithClicks(b, make([]int, 1<<17)), clicksFail},
		})
	}
	// Mines may make up all of the board but one cell.
	one := full("*")[:70] + "."
	checkCases(t, []boardCase{
		{"NeedlessClicks on one cell", two(impl.NeedlessClicks(one, slices.Repeat([]int{63}, 64))), told(upTo(64)[1:], true)},
		{"one click more on one cell", callWithClicks(one, slices.Repeat([]int{63}, 65)), clicksFail},
	})
}

// TestClicksThatThereAreNot: one click on a mine, or on no cell, makes a call fail, wherever it stands.
func TestClicksThatThereAreNot(t *testing.T) {
	b := "..*.*./....../*....."
	wrong := []int{2, 4, 12, -1, -18, 18, 19, 64, math.MinInt, math.MaxInt, 1 << 32}
	for _, cell := range wrong {
		last := append(slices.Repeat([]int{0}, impl.MaxClicks-1), cell)
		for _, clicks := range [][]int{{cell}, {cell, 0}, {0, cell}, {0, cell, 14}, {cell, cell}, last} {
			checkCases(t, []boardCase{{fmt.Sprint(b, clicks), callWithClicks(b, clicks), clicksFail}})
		}
	}
}

func TestNoBoardsFailToOpen(t *testing.T) {
	for _, s := range noBoards() {
		checkCases(t, []boardCase{
			{"OpenedBy " + s, two(impl.OpenedBy(s, 0)), "[] false"},
			{"OpeningsOf " + s, two(impl.OpeningsOf(s)), "[] false"},
			{"CountOpenings " + s, two(impl.CountOpenings(s)), "0 false"},
			{"EdgeOfOpening " + s, two(impl.EdgeOfOpening(s, 0)), "[] false"},
			{"CellsAlone " + s, two(impl.CellsAlone(s)), "[] false"},
			{"FewestClicks " + s, two(impl.FewestClicks(s)), "0 false"},
			{"FirstClicks " + s, two(impl.FirstClicks(s)), "[] false"},
			{"LargestOpening " + s, two(impl.LargestOpening(s)), "[] false"},
			{"BestClicks " + s, three(impl.BestClicks(s)), "[] 0 false"},
			{"OpeningsWith " + s, two(impl.OpeningsWith(s, 0)), "[] false"},
			{"SharedCells " + s, two(impl.SharedCells(s)), "[] false"},
			{"no clicks " + s, callWithClicks(s, nil), clicksFail},
			{"a click " + s, callWithClicks(s, []int{0}), clicksFail},
		})
	}
}

func TestOpenCellsThatThereAreNot(t *testing.T) {
	for _, b := range []string{".", "*", "*../.../..*", "*......*", "./*/.", full("."), full("*")} {
		for _, cell := range append(oddInts(), 2, 3, 11, 71) {
			if cell >= 0 && cell < modelOf(b).cells() {
				continue
			}
			call := fmt.Sprintf("%s %d", b, cell)
			checkCases(t, []boardCase{
				{"OpenedBy " + call, two(impl.OpenedBy(b, cell)), "[] false"},
				{"EdgeOfOpening " + call, two(impl.EdgeOfOpening(b, cell)), "[] false"},
				{"OpeningsWith " + call, two(impl.OpeningsWith(b, cell)), "[] false"},
			})
		}
	}
}
