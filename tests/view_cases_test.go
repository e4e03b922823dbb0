package tests

import (
	"fmt"
	"regexp"
	"slices"
	"strings"
	"testing"

	"loop.example/g01294/impl"
)

func TestViewExample(t *testing.T) {
	checkCases(t, []boardCase{
		{"FittingBoards ?1?", two(impl.FittingBoards("?1?", -1)), "[*.. ..*] true"},
		{"ChancesOf ?1?", two(impl.ChancesOf("?1?", -1)), "[[1 2] [1 2]] true"},
		{"CountFitting ?1/??", two(impl.CountFitting("?1/??", -1)), "3 true"},
		{"CountFitting ?1/?? with 2 mines", two(impl.CountFitting("?1/??", 2)), "0 true"},
		{"SureMines 1?/11", two(impl.SureMines("1?/11", -1)), "[1] true"},
		{"NumbersFor ??1", two(impl.NumbersFor("??1", -1, 0)), "[[1 1]] true"},
	})
}

func TestOrdinaryViews(t *testing.T) {
	v, b := "??0/?2?/???", "*../.../..*"
	checkCases(t, []boardCase{
		{"IsView", told(impl.IsView(v)), "true"},
		{"HiddenCells", two(impl.HiddenCells(v)), "[0 1 3 5 6 7 8] true"},
		{"ViewOf", two(impl.ViewOf(b, []int{2, 4})), v + " true"},
		{"ViewOf all free cells", two(impl.ViewOf(b, []int{1, 2, 3, 4, 5, 6, 7})), "?10/121/01? true"},
		{"ViewOf a mine", two(impl.ViewOf(b, []int{2, 4, 8})), " false"},
		{"DoesFitView", two(impl.DoesFitView(v, b)), "true true"},
		{"DoesFitView with a mine more", two(impl.DoesFitView(v, "*../.../*.*")), "false true"},
		{"DoesFitView with a mine in an open cell", two(impl.DoesFitView(v, "*../.*./..*")), "false true"},
		{"CountFitting", two(impl.CountFitting(v, -1)), "10 true"},
		{"CountFitting with 2 mines", two(impl.CountFitting(v, 2)), "10 true"},
		{"CountFitting with 3 mines", two(impl.CountFitting(v, 3)), "0 true"},
		{"SureMines", two(impl.SureMines(v, -1)), "[] true"},
		{"SureFree", two(impl.SureFree(v, -1)), "[1 5] true"},
		{"ChancesOf", two(impl.ChancesOf(v, 2)), "[[2 5] [0 1] [2 5] [0 1] [2 5] [2 5] [2 5]] true"},
		{"SafestCells", two(impl.SafestCells(v, -1)), "[1 5] true"},
		{"SafestCells of which none is sure", two(impl.SafestCells("???/1??/???", 2)), "[0 1 4 6 7] true"},
		{"MeanMines", three(impl.MeanMines(v)), "2 1 true"},
		{"CountByMines", two(impl.CountByMines(v)), "[0 0 10 0 0 0 0 0] true"},
		{"NumbersFor", two(impl.NumbersFor(v, -1, 1)), "[[0 3] [1 6] [2 1]] true"},
		{"NumbersFor, with mines in between", two(impl.NumbersFor("??2?", -1, 0)), "[[1 1]] true"},
		{"OpenCell", two(impl.OpenCell(v, b, 1)), "?10/?2?/??? true"},
		{"OpenCell a zero", two(impl.OpenCell(v, b, 6)), "??0/?2?/0?? true"},
		{"OpenCell a mine", two(impl.OpenCell(v, b, 8)), " false"},
		{"OpenCell an open cell", two(impl.OpenCell(v, b, 4)), " false"},
		{"OpenCell of another board that fits", two(impl.OpenCell(v, "*../.../.*.", 1)), "?10/?2?/??? true"},
		{"OpenCell of a board that does not fit", two(impl.OpenCell(v, "**./.../...", 3)), " false"},
		{"IsSettled", two(impl.IsSettled(v, -1)), "false true"},
		{"CloseView", two(impl.CloseView(v, 2)), "???/?2?/??? true"},
		{"CloseView a hidden cell", two(impl.CloseView(v, 0)), " false"},
	})
	boards, ok := impl.FittingBoards(v, -1)
	same(t, "FittingBoards", boards, ok, []string{
		"*../*../...", "*../.../*..", "*../.../.*.", "*../.../..*", ".../*../*..",
		".../*../.*.", ".../*../..*", ".../.../**.", ".../.../*.*", ".../.../.**"})
}

// TestMinesOfViews: a number of mines may be any one in -1..64, also if there are not as many hidden cells.
func TestMinesOfViews(t *testing.T) {
	checkCases(t, []boardCase{
		{"any number", two(impl.FittingBoards("??", -1)), "[** *. .* ..] true"},
		{"none", two(impl.FittingBoards("??", 0)), "[..] true"},
		{"1", two(impl.FittingBoards("??", 1)), "[*. .*] true"},
		{"2", two(impl.FittingBoards("??", 2)), "[**] true"},
		{"3", two(impl.FittingBoards("??", 3)), "[] true"},
		{"64", two(impl.FittingBoards("??", 64)), "[] true"},
		{"SureMines 2", two(impl.SureMines("??", 2)), "[0 1] true"},
		{"SureFree 0", two(impl.SureFree("??", 0)), "[0 1] true"},
		{"SafestCells with mines in all", two(impl.SafestCells("??", 2)), "[0 1] true"},
		{"ChancesOf with mines in all", two(impl.ChancesOf("??", 2)), "[[1 1] [1 1]] true"},
		{"ChancesOf with no mines", two(impl.ChancesOf("??", 0)), "[[0 1] [0 1]] true"},
		{"NumbersFor of 1", two(impl.NumbersFor("???", 1, 1)), "[[1 2]] true"},
		{"NumbersFor of any number", two(impl.NumbersFor("???", -1, 1)), "[[0 1] [1 2] [2 1]] true"},
		{"NumbersFor with a mine in all", two(impl.NumbersFor("???", 3, 1)), "[] true"},
		{"IsSettled by no mines", two(impl.IsSettled("???", 0)), "true true"},
		{"IsSettled by 1", two(impl.IsSettled("???", 1)), "false true"},
		{"IsSettled by all", two(impl.IsSettled("???", 3)), "true true"},
	})
	for _, v := range []string{"?", "0", "?1?", "1?0", "???/?8?/???", full("0")} {
		for _, mines := range append(oddInts(), 2, 3, 16) {
			if mines >= -1 && mines <= 64 {
				checkViewWith(t, viewModelOf(v), mines)
				continue
			}
			checkCases(t, []boardCase{{fmt.Sprint(v, " ", mines), callWithMines(v, mines, 0), withMinesFail}})
		}
	}
}

// callWithMines calls every function of chapter 3 that takes a number of mines, and tells what they return.
func callWithMines(v string, mines int, cell int) string {
	return told(
		callNeedingBoards(v, mines, cell),
		two(impl.CountFitting(v, mines)), two(impl.FittingBoards(v, mines)), two(impl.IsSettled(v, mines)))
}

const withMinesFail = needingBoardsFail + " 0 false [] false false false"

// TestViewsWithNoHiddenCells: just the board without mines can fit.
func TestViewsWithNoHiddenCells(t *testing.T) {
	for _, v := range []string{"0", "00", "0/0", "000/000", "00000000", "0/0/0/0/0/0/0/0", full("0")} {
		b := strings.ReplaceAll(v, "0", ".")
		checkCases(t, []boardCase{
			{"HiddenCells " + v, two(impl.HiddenCells(v)), "[] true"},
			{"ViewOf " + b, two(impl.ViewOf(b, upTo(modelOf(b).cells()))), v + " true"},
			{"DoesFitView " + v, two(impl.DoesFitView(v, b)), "true true"},
			{"CountFitting " + v, two(impl.CountFitting(v, -1)), "1 true"},
			{"CountFitting without mines " + v, two(impl.CountFitting(v, 0)), "1 true"},
			{"CountFitting with a mine " + v, two(impl.CountFitting(v, 1)), "0 true"},
			{"FittingBoards " + v, two(impl.FittingBoards(v, -1)), "[" + b + "] true"},
			{"SureMines " + v, two(impl.SureMines(v, 0)), "[] true"},
			{"SureFree " + v, two(impl.SureFree(v, 0)), "[] true"},
			{"ChancesOf " + v, two(impl.ChancesOf(v, -1)), "[] true"},
			{"SafestCells " + v, two(impl.SafestCells(v, -1)), "[] true"},
			{"SafestCells with a mine " + v, two(impl.SafestCells(v, 1)), "[] false"},
			{"MeanMines " + v, three(impl.MeanMines(v)), "0 1 true"},
			{"CountByMines " + v, two(impl.CountByMines(v)), "[1] true"},
			{"NumbersFor " + v, two(impl.NumbersFor(v, -1, 0)), "[] false"},
			{"OpenCell " + v, two(impl.OpenCell(v, b, 0)), " false"},
			{"IsSettled " + v, two(impl.IsSettled(v, -1)), "true true"},
			{"IsSettled with a mine " + v, two(impl.IsSettled(v, 1)), "false true"},
			{"CloseView " + v, two(impl.CloseView(v, 0)), "?" + v[1:] + " true"},
		})
	}
}

// TestViewsThatNoBoardFits: some functions fail, and others tell that there is none.
func TestViewsThatNoBoardFits(t *testing.T) {
	for _, v := range []string{"1", "8", "1?0", "1/?/0", "?8?", "2?", "???/?01/???", "?01", full("0")[:70] + "1"} {
		m := viewModelOf(v)
		checkCases(t, []boardCase{
			{"IsView " + v, told(impl.IsView(v)), "true"},
			{"HiddenCells " + v, two(impl.HiddenCells(v)), told(m.hidden, true)},
			{"CountFitting " + v, two(impl.CountFitting(v, -1)), "0 true"},
			{"FittingBoards " + v, two(impl.FittingBoards(v, -1)), "[] true"},
			{"IsSettled " + v, two(impl.IsSettled(v, -1)), "false true"},
			{"CountByMines " + v, two(impl.CountByMines(v)), told(make([]int, len(m.hidden)+1), true)},
			{"MeanMines " + v, three(impl.MeanMines(v)), "0 0 false"},
			{"others " + v, callNeedingBoards(v, -1, firstOf(m.hidden)), needingBoardsFail},
			{"OpenCell " + v, two(impl.OpenCell(v, modelOf(v).text(func(int) string { return "." }), firstOf(m.hidden))), " false"},
		})
	}
}

// TestViewsThatOneBoardFits: all of its cells are sure.
func TestViewsThatOneBoardFits(t *testing.T) {
	checkCases(t, []boardCase{
		{"FittingBoards ?11?", two(impl.FittingBoards("?11?", -1)), "[*..*] true"},
		{"IsSettled ?11?", two(impl.IsSettled("?11?", -1)), "true true"},
		{"IsSettled ?11? with 2 mines", two(impl.IsSettled("?11?", 2)), "true true"},
		{"IsSettled ?11? with 1 mine", two(impl.IsSettled("?11?", 1)), "false true"},
		{"SureMines ?11?", two(impl.SureMines("?11?", -1)), "[0 3] true"},
		{"FittingBoards ???/121", two(impl.FittingBoards("???/121", -1)), "[*.*/...] true"},
		{"SureFree ???/121", two(impl.SureFree("???/121", -1)), "[1] true"},
		{"ChancesOf ???/121", two(impl.ChancesOf("???/121", 2)), "[[1 1] [0 1] [1 1]] true"},
		{"SafestCells ???/121", two(impl.SafestCells("???/121", 2)), "[1] true"},
		{"NumbersFor ???/121", two(impl.NumbersFor("???/121", 2, 1)), "[[2 1]] true"},
	})
}

// TestDigitEight: all eight neighbours have mines.
func TestDigitEight(t *testing.T) {
	v := "???/?8?/???"
	checkCases(t, []boardCase{
		{"FittingBoards", two(impl.FittingBoards(v, -1)), "[***/*.*/***] true"},
		{"SureMines", two(impl.SureMines(v, 8)), "[0 1 2 3 5 6 7 8] true"},
		{"SureFree", two(impl.SureFree(v, 8)), "[] true"},
		{"SafestCells", two(impl.SafestCells(v, 8)), "[0 1 2 3 5 6 7 8] true"},
		{"MeanMines", three(impl.MeanMines(v)), "8 1 true"},
		{"CountByMines", two(impl.CountByMines(v)), "[0 0 0 0 0 0 0 0 1] true"},
		{"CountFitting with 7 mines", two(impl.CountFitting(v, 7)), "0 true"},
		{"NumbersFor", two(impl.NumbersFor(v, -1, 0)), "[] true"},
		{"ViewOf", two(impl.ViewOf("***/*.*/***", []int{4})), v + " true"},
		{"OpenCell", two(impl.OpenCell("???/???/???", "***/*.*/***", 4)), v + " true"},
		{"NumbersFor the middle", two(impl.NumbersFor("???/???/???", 8, 4)), "[[8 1]] true"},
		{"CloseView", two(impl.CloseView(v, 4)), "???/???/??? true"},
		{"the digit 9", told(impl.IsView("???/?9?/???")), "false"},
	})
}

func TestSingleCellViews(t *testing.T) {
	checkCases(t, []boardCase{
		{"HiddenCells", two(impl.HiddenCells("?")), "[0] true"},
		{"ViewOf none", two(impl.ViewOf(".", nil)), "? true"},
		{"ViewOf none with a mine", two(impl.ViewOf("*", []int{})), "? true"},
		{"ViewOf", two(impl.ViewOf(".", []int{0})), "0 true"},
		{"ViewOf a mine", two(impl.ViewOf("*", []int{0})), " false"},
		{"FittingBoards", two(impl.FittingBoards("?", -1)), "[* .] true"},
		{"ChancesOf", two(impl.ChancesOf("?", -1)), "[[1 2]] true"},
		{"MeanMines", three(impl.MeanMines("?")), "1 2 true"},
		{"CountByMines", two(impl.CountByMines("?")), "[1 1] true"},
		{"NumbersFor", two(impl.NumbersFor("?", -1, 0)), "[[0 1]] true"},
		{"NumbersFor a mine", two(impl.NumbersFor("?", 1, 0)), "[] true"},
		{"OpenCell", two(impl.OpenCell("?", ".", 0)), "0 true"},
		{"OpenCell a mine", two(impl.OpenCell("?", "*", 0)), " false"},
		{"CloseView", two(impl.CloseView("7", 0)), "? true"},
	})
}

func TestRowAndColumnViews(t *testing.T) {
	cases := []struct{ v, first, second, opened string }{
		{"?1?1??0?", "*...*...", "..*.....", "?1?1?10?"},
		{"?/1/?/1/?/?/0/?", "*/./././*/././.", "././*/././././.", "?/1/?/1/?/1/0/?"},
	}
	for _, c := range cases {
		checkCases(t, []boardCase{
			{"HiddenCells " + c.v, two(impl.HiddenCells(c.v)), "[0 2 4 5 7] true"},
			{"FittingBoards " + c.v, two(impl.FittingBoards(c.v, -1)), "[" + c.first + " " + c.second + "] true"},
			{"FittingBoards with 1 mine " + c.v, two(impl.FittingBoards(c.v, 1)), "[" + c.second + "] true"},
			{"SureFree " + c.v, two(impl.SureFree(c.v, -1)), "[5 7] true"},
			{"ChancesOf " + c.v, two(impl.ChancesOf(c.v, -1)), "[[1 2] [1 2] [1 2] [0 1] [0 1]] true"},
			{"MeanMines " + c.v, three(impl.MeanMines(c.v)), "3 2 true"},
			{"CountByMines " + c.v, two(impl.CountByMines(c.v)), "[0 1 1 0 0 0] true"},
			{"NumbersFor " + c.v, two(impl.NumbersFor(c.v, -1, 5)), "[[0 1] [1 1]] true"},
			{"OpenCell " + c.v, two(impl.OpenCell(c.v, c.first, 5)), c.opened + " true"},
		})
	}
}

// TestAllHidden: with MaxHidden hidden cells there are as many boards as choices of mines, and with one more there is no view.
func TestAllHidden(t *testing.T) {
	checkCases(t, []boardCase{{"MaxHidden", fmt.Sprint(impl.MaxHidden), "14"}, {"MaxBoards", fmt.Sprint(impl.MaxBoards), "200"}})
	v := "???????/???????"
	free, mined := "......./.......", "*******/*******"
	checkCases(t, []boardCase{
		{"HiddenCells", two(impl.HiddenCells(v)), told(upTo(14), true)},
		{"ViewOf", two(impl.ViewOf(mined, nil)), v + " true"},
		{"CountFitting", two(impl.CountFitting(v, -1)), "16384 true"},
		{"CountFitting with 7 mines", two(impl.CountFitting(v, 7)), "3432 true"},
		{"CountFitting with 15 mines", two(impl.CountFitting(v, 15)), "0 true"},
		{"FittingBoards", two(impl.FittingBoards(v, -1)), "[] false"},
		{"FittingBoards without mines", two(impl.FittingBoards(v, 0)), "[" + free + "] true"},
		{"FittingBoards with 14 mines", two(impl.FittingBoards(v, 14)), "[" + mined + "] true"},
		{"ChancesOf", two(impl.ChancesOf(v, -1)), told(slices.Repeat([][]int{{1, 2}}, 14), true)},
		{"ChancesOf with 4 mines", two(impl.ChancesOf(v, 4)), told(slices.Repeat([][]int{{2, 7}}, 14), true)},
		{"SafestCells", two(impl.SafestCells(v, 3)), told(upTo(14), true)},
		{"SureMines with 13 mines", two(impl.SureMines(v, 13)), "[] true"},
		{"SureMines with 14 mines", two(impl.SureMines(v, 14)), told(upTo(14), true)},
		{"MeanMines", three(impl.MeanMines(v)), "7 1 true"},
		{"CountByMines", two(impl.CountByMines(v)), "[1 14 91 364 1001 2002 3003 3432 3003 2002 1001 364 91 14 1] true"},
		{"NumbersFor", two(impl.NumbersFor(v, -1, 0)), "[[0 1024] [1 3072] [2 3072] [3 1024]] true"},
		{"OpenCell", two(impl.OpenCell(v, free, 13)), v[:14] + "0 true"},
		{"IsSettled", two(impl.IsSettled(v, -1)), "false true"},
		{"IsSettled with 14 mines", two(impl.IsSettled(v, 14)), "true true"},
		{"CloseView", two(impl.CloseView(v, 0)), " false"},
	})
	for _, more := range []string{"?????/?????/?????", "????????/????????", "?????/?????/?????/11111", full("?")} {
		checkCases(t, []boardCase{{"one hidden cell more " + more, callWithView(more, 0, 0, "."), withViewFail}})
	}
}

// TestOneHiddenCellMore: a view with as many hidden cells as there may be is not closed further.
func TestOneHiddenCellMore(t *testing.T) {
	free := "...../...../....."
	checkCases(t, []boardCase{
		{"ViewOf with 15 hidden cells", two(impl.ViewOf(free, nil)), " false"},
		{"ViewOf with 14 hidden cells", two(impl.ViewOf(free, []int{14})), "?????/?????/????0 true"},
		{"CloseView of 14 hidden cells", two(impl.CloseView("?????/?????/????0", 14)), " false"},
		{"CloseView of 13 hidden cells", two(impl.CloseView("?????/?????/???00", 14)), "?????/?????/???0? true"},
		{"OpenCell of 14 hidden cells", two(impl.OpenCell("?????/?????/????0", free, 0)), "0????/?????/????0 true"},
	})
}

// TestFullViews: cells that only hidden ones are beside may have mines, those beside a zero may not.
func TestFullViews(t *testing.T) {
	free := full(".")
	v := "????????/??????00/" + full("0")[18:]
	checkCases(t, []boardCase{
		{"ViewOf 49 open cells", two(impl.ViewOf(free, upTo(64)[15:])), " false"},
		{"ViewOf 50 open cells", two(impl.ViewOf(free, upTo(64)[14:])), v + " true"},
		{"ViewOf one cell with a mine around", two(impl.ViewOf("*"+free[1:], append([]int{1}, upTo(64)[14:]...))), "?1??????/??????00/" + full("0")[18:] + " true"},
		{"HiddenCells", two(impl.HiddenCells(v)), told(upTo(14), true)},
		{"CountFitting", two(impl.CountFitting(v, -1)), "32 true"},
		{"SureFree", two(impl.SureFree(v, -1)), "[5 6 7 8 9 10 11 12 13] true"},
		{"SureMines with 5 mines", two(impl.SureMines(v, 5)), "[0 1 2 3 4] true"},
		{"ChancesOf with 2 mines", two(impl.ChancesOf(v, 2)), told(append(slices.Repeat([][]int{{2, 5}}, 5), slices.Repeat([][]int{{0, 1}}, 9)...), true)},
		{"IsSettled with 5 mines", two(impl.IsSettled(v, 5)), "true true"},
		{"FittingBoards with 5 mines", two(impl.FittingBoards(v, 5)), "[*****" + free[5:] + "] true"},
		{"MeanMines", three(impl.MeanMines(v)), "5 2 true"},
		{"CountByMines", two(impl.CountByMines(v)), "[1 5 10 10 5 1 0 0 0 0 0 0 0 0 0] true"},
		{"NumbersFor", two(impl.NumbersFor(v, 3, 11)), "[[1 3] [2 6] [3 1]] true"},
		{"OpenCell", two(impl.OpenCell(v, "**"+free[2:], 8)), "????????/2?????00/" + full("0")[18:] + " true"},
		{"DoesFitView with a mine beside a zero", two(impl.DoesFitView(v, ".....*"+free[6:])), "false true"},
		{"CloseView", two(impl.CloseView(v, 63)), " false"},
		{"CloseView the last", two(impl.CloseView(full("0"), 63)), full("0")[:70] + "? true"},
	})
}

// TestNumberOfBoards: MaxBoards boards that fit are told, and not one more.
func TestNumberOfBoards(t *testing.T) {
	cases := []struct {
		v     string
		mines int
		count int
	}{
		{"?????/1???1/?????", -1, 200}, {"????/????/?3??", 6, 200}, {"????/????/?2??", 5, 200},
		{"????/??2?/?2??/????", 4, 201}, {"????/????/??2?/?2??", 7, 201}, {"???????/???????", 1, 14}, {"????????", -1, 256},
	}
	for _, c := range cases {
		m := viewModelOf(c.v)
		call := fmt.Sprintf(" %s %d", c.v, c.mines)
		want := "[] false"
		if c.count <= 200 {
			want = told(m.with(c.mines), true)
		}
		checkCases(t, []boardCase{
			{"boards of" + call, fmt.Sprint(len(m.with(c.mines))), fmt.Sprint(c.count)},
			{"CountFitting" + call, two(impl.CountFitting(c.v, c.mines)), told(c.count, true)},
			{"FittingBoards" + call, two(impl.FittingBoards(c.v, c.mines)), want},
			{"ChancesOf" + call, two(impl.ChancesOf(c.v, c.mines)), told(m.chances(m.with(c.mines)), true)},
		})
	}
}

// TestBoardsOfAnotherSize: they do not fit, as they would cell by cell.
func TestBoardsOfAnotherSize(t *testing.T) {
	views := []string{"?1?", "?/1/?", "??/??", "???/???", "??/??/??", "????", "0", "00", full("0")}
	boards := []string{"*..", "*/./.", "../..", ".../...", "../../..", "....", ".", "..", full(".")}
	for i, v := range views {
		for k, b := range boards {
			fits, opened := "false true", " false"
			if i == k {
				fits = "true true"
				opened = two(impl.OpenCell(v, b, 2))
			}
			checkCases(t, []boardCase{
				{"DoesFitView " + v + " " + b, two(impl.DoesFitView(v, b)), fits},
				{"OpenCell " + v + " " + b, two(impl.OpenCell(v, b, 2)), opened},
			})
		}
	}
}

// TestViewOfOtherLists: one cell that is not there, does not increase or has a mine makes ViewOf fail, wherever it stands.
func TestViewOfOtherLists(t *testing.T) {
	b := "*../.../..*"
	lists := [][]int{{0}, {8}, {0, 1}, {1, 8}, {1, 1}, {2, 1}, {1, 3, 2}, {1, 2, 2}, {-1}, {-1, 1}, {9}, {1, 9}, {1, -1}, upTo(9), upTo(64), {1 << 32}, {1, 1<<32 + 2}}
	for _, open := range append(lists, oddInts(), make([]int, 1<<17)) {
		checkCases(t, []boardCase{{fmt.Sprint("ViewOf ", open), two(impl.ViewOf(b, open)), " false"}})
	}
	checkCases(t, []boardCase{
		{"ViewOf none", two(impl.ViewOf(b, nil)), "???/???/??? true"},
		{"ViewOf the first and the last that are free", two(impl.ViewOf(b, []int{1, 7})), "?1?/???/?1? true"},
	})
}

// TestIsViewOfShortTexts tries all texts of up to seven signs.
func TestIsViewOfShortTexts(t *testing.T) {
	view := regexp.MustCompile(`\A(?:[?8](?:/[?8])*|[?8]{2}(?:/[?8]{2})*|[?8]{3}(?:/[?8]{3})*|[?8]{4,7})\z`)
	eachText([]string{"?", "8", "/", "."}, 7, func(s string) {
		if got, want := impl.IsView(s), view.MatchString(s); got != want {
			t.Errorf("IsView %q: %v, want %v", s, got, want)
		}
	})
	for sign := range 256 {
		s := string([]byte{byte(sign)})
		if got, want := impl.IsView(s), strings.Contains("?012345678", s); got != want {
			t.Errorf("IsView %q: %v, want %v", s, got, want)
		}
	}
}

// noViews are texts that are no views, for one reason each.
func noViews() []string {
	texts := []string{".", "*", "?.", "*1", "9", "?9?", "1-", "???/?1?/??*", "*../.../..*", full("."), full("?"), "?????/?????/?????", strings.Repeat("?", 1<<20)}
	for _, s := range noBoards() {
		if !strings.ContainsAny(s, "?0123456789") {
			texts = append(texts, strings.NewReplacer(".", "0", "*", "1").Replace(s))
		}
	}
	return texts
}

// callWithView calls every function of chapter 3 that takes a view, and tells what they return.
func callWithView(v string, mines int, cell int, b string) string {
	return told(
		impl.IsView(v), two(impl.HiddenCells(v)), two(impl.DoesFitView(v, b)), callWithMines(v, mines, cell),
		three(impl.MeanMines(v)), two(impl.CountByMines(v)), two(impl.OpenCell(v, b, cell)), two(impl.CloseView(v, cell)))
}

const withViewFail = "false [] false false false " + withMinesFail + " 0 0 false [] false  false  false"

func TestNoViewsFail(t *testing.T) {
	for _, s := range noViews() {
		for _, mines := range []int{-2, -1, 0, 64} {
			checkCases(t, []boardCase{
				{s, callWithView(s, mines, 0, "."), withViewFail},
				{s + " with itself", callWithView(s, mines, 0, s), withViewFail},
			})
		}
	}
}

func TestNoBoardsFailForViews(t *testing.T) {
	for _, s := range noBoards() {
		checkCases(t, []boardCase{
			{"ViewOf " + s, two(impl.ViewOf(s, nil)), " false"},
			{"ViewOf a cell of " + s, two(impl.ViewOf(s, []int{0})), " false"},
			{"DoesFitView " + s, two(impl.DoesFitView("???/???/???", s)), "false false"},
			{"OpenCell " + s, two(impl.OpenCell("?", s, 0)), " false"},
			{"OpenCell of nine " + s, two(impl.OpenCell("???/???/???", s, 1)), " false"},
		})
	}
}

func TestViewCellsThatThereAreNot(t *testing.T) {
	for _, v := range []string{"?", "0", "?1?", "???/?2?/???", "?/1/?", full("0")} {
		b := modelOf(v).text(func(int) string { return "." })
		all := strings.NewReplacer("1", "0", "2", "0").Replace(v)
		for _, cell := range append(oddInts(), 2, 3, 11, 71) {
			if cell >= 0 && cell < modelOf(v).cells() {
				continue
			}
			call := fmt.Sprintf("%s %d", v, cell)
			checkCases(t, []boardCase{
				{"NumbersFor " + call, two(impl.NumbersFor(v, -1, cell)), "[] false"},
				{"OpenCell " + call, two(impl.OpenCell(all, b, cell)), " false"},
				{"CloseView " + call, two(impl.CloseView(v, cell)), " false"},
			})
		}
	}
}
