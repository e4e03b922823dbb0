package tests

import (
	"fmt"
	"math"
	"slices"
	"strings"
	"testing"

	"loop.example/g01294/impl"
)

func TestPuzzleExample(t *testing.T) {
	p, ok := impl.ParsePuzzle("3x1:2.1.1,1.1.0")
	more, moreOK := impl.AddClue(p, clue(0, 0, 1))
	checkCases(t, []boardCase{
		{"ParsePuzzle", told(p, ok), "{3 1 [{2 1 1} {1 1 0}]} true"},
		{"Solutions", two(impl.Solutions(p)), "[*.. ..*] true"},
		{"SureCells", two(impl.SureCells(p)), "?.? true"},
		{"LeftByClues", two(impl.LeftByClues(p)), "[8 4 2] true"},
		{"AddClue", told(more, moreOK), "{3 1 [{2 1 1} {1 1 0} {0 0 1}]} true"},
		{"Solutions with a clue more", two(impl.Solutions(more)), "[*..] true"},
		{"MaxPuzzled and MaxClues", told(impl.MaxPuzzled, impl.MaxClues), "9 8"},
	})
}

// callPuzzle calls every function of chapter 9 that takes a puzzle alone, and tells what they return.
func callPuzzle(p impl.Puzzle) string {
	return told(
		impl.IsPuzzle(p), two(impl.Solutions(p)), two(impl.CountSolutions(p)), two(impl.FirstSolution(p)), two(impl.SureCells(p)),
		two(impl.IsSolved(p)), two(impl.NeedlessClues(p)), two(impl.LeftByClues(p)), two(impl.BestClue(p)), two(impl.HarderPuzzle(p)),
		two(impl.PuzzleText(p)))
}

const puzzleFail = "false [] false 0 false  false  false false false [] false [] false 0 false {0 0 []} false  false"

// puzzleCase is a puzzle with its solutions, sure cells, needless clues, boards that are left by clues, the best clue, and the harder puzzle: no sure cells, -1 and no puzzle where these fail.
type puzzleCase struct {
	what      string
	text      string
	solutions string
	sure      string
	needless  string
	left      string
	best      int
	harder    string
}

// told tells what callPuzzle does.
func (c puzzleCase) told() string {
	count, first := strings.Count(c.solutions+" ", " "), ""
	if c.solutions == "" {
		count = 0
	} else {
		first = strings.Fields(c.solutions)[0]
	}
	return told(
		true, "["+c.solutions+"]", true, count, true, first, count > 0, c.sure, count > 0,
		count == 1, true, "["+c.needless+"]", true, "["+c.left+"]", true, max(c.best, 0), c.best >= 0, puzzleOf(c.harder), c.harder != "",
		c.text, true)
}

func checkPuzzles(t *testing.T, cases []puzzleCase) {
	t.Helper()
	for _, c := range cases {
		p, ok := impl.ParsePuzzle(c.text)
		checkCases(t, []boardCase{
			{c.what, callPuzzle(puzzleOf(c.text)), c.told()},
			{c.what + ", taken out of its text", told(p, ok), told(puzzleOf(c.text), true)},
		})
	}
}

func TestOrdinaryPuzzles(t *testing.T) {
	checkPuzzles(t, []puzzleCase{
		{"the example", "3x1:2.1.1,1.1.0", "*.. ..*", "?.?", "", "8 4 2", 1, ""},
		{"the example with a clue more", "3x1:2.1.1,1.1.0,0.0.1", "*..", "*..", "0", "8 4 2 1", 1, "3x1:1.1.0,0.0.1"},
		{"a clue of each kind", "3x2:0.0.1,1.3.0,2.1.3,3.1.2,4.2.1,5.7.0", "*../*.* *../.**", "*../??*", "1 2 4 5", "64 32 10 6 3 2 2", 5, ""},
		{"three by three", "3x3:1.2.0,3.0.1,4.2.0,5.10.0,0.8.0,2.4.2", ".*./.../.*.", ".*./.../.*.", "1 2 4 5", "512 36 18 8 1 1 1", 0, "3x3:1.2.0,4.2.0,5.10.0"},
		{"a row", "8x1:3.0.3,2.1.2,5.5.0,2.7.1", "*.*...*.", "*.*...*.", "2", "256 56 6 3 1", 2, "8x1:3.0.3,2.1.2,2.7.1"},
		{"a column", "1x8:4.0.1,2.3.1,2.5.0,0.4.0", "././*/././././.", "././*/././././.", "2 3", "256 8 2 1 1", 0, "1x8:4.0.1,2.3.1,0.4.0"},
	})
}

func TestPuzzlesWithFewAndManyClues(t *testing.T) {
	checkPuzzles(t, []puzzleCase{
		{"no clue", "2x1:", "** *. .* ..", "??", "", "4", -1, ""},
		{"no clue for a single cell", "1x1:", "* .", "?", "", "2", -1, ""},
		{"one clue", "2x2:5.4.0", "**/.. *./*. *./.* .*/*. .*/.* ../**", "??/??", "", "16 6", 0, ""},
		{"one clue that solves it", "3x3:1.9.0", "***/***/***", "***/***/***", "", "512 1", 0, "3x3:1.9.0"},
		{"a mine in a single cell", "1x1:0.0.1", "*", "*", "", "2 1", 0, "1x1:0.0.1"},
		{"no mine in a single cell", "1x1:1.0.0", ".", ".", "", "2 1", 0, "1x1:1.0.0"},
		{"as many clues as there may be", "4x2:0.0.1,3.1.1,5.9.0,4.3.0,1.3.0,2.6.1,2.5.3,0.1.1", "**../..*.", "**../..*.", "0 1 3 4 5 6", "256 128 32 11 3 3 2 2 1", 5, "4x2:3.1.1,5.9.0,2.6.1,0.1.1"},
		{"as many clues as there may be, all the same", "3x1:2.1.2,2.1.2,2.1.2,2.1.2,2.1.2,2.1.2,2.1.2,2.1.2", "*** *.*", "*?*", "0 1 2 3 4 5 6 7", "8 2 2 2 2 2 2 2 2", 0, ""},
	})
}

// TestPuzzlesThatNumbersSolveOrNot: the number of a cell is told whether it has a mine or not.
func TestPuzzlesThatNumbersSolveOrNot(t *testing.T) {
	checkPuzzles(t, []puzzleCase{
		{"the number of a cell, a mine or not", "3x3:2.4.8", "***/***/*** ***/*.*/***", "***/*?*/***", "", "512 2", 0, ""},
		{"the number of a mine", "3x3:2.4.8,0.4.1", "***/***/***", "***/***/***", "", "512 2 1", 0, "3x3:2.4.8,0.4.1"},
		{"the numbers of two mines", "2x2:2.0.3,2.3.3", "**/**", "**/**", "", "16 2 1", 0, "2x2:2.0.3,2.3.3"},
	})
}

func TestPuzzlesThatAllBoardsFit(t *testing.T) {
	checkPuzzles(t, []puzzleCase{
		{"a clue that all hidden boards fit", "1x1:2.0.0", "* .", "?", "0", "2 2", 0, ""},
		{"clues that all hidden boards fit", "1x1:5.0.0,2.0.0", "* .", "?", "0 1", "2 2 2", 0, ""},
	})
}

func TestPuzzlesWithoutSolutions(t *testing.T) {
	checkPuzzles(t, []puzzleCase{
		{"no solution by one clue", "3x1:2.1.3", "", "", "", "8 0", 0, ""},
		{"no solution by a sum that there is not", "2x2:5.100.0", "", "", "", "16 0", 0, ""},
		{"no solution by a row that is too short", "3x2:3.0.8", "", "", "", "64 0", 0, ""},
		{"no solution by two clues", "3x1:1.0.0,0.0.1", "", "", "", "8 1 0", 0, ""},
		{"no solution by any two of three clues", "3x1:1.0.0,1.1.0,1.2.0", "", "", "0 1 2", "8 1 0 0", 0, ""},
		{"no solution by the last clue", "3x2:1.2.0,3.0.2,5.0.0", "", "", "0 1", "64 15 3 0", 2, ""},
	})
}

// TestNeedlessCluesOfPuzzles: clues may be needless alone, but not together.
func TestNeedlessCluesOfPuzzles(t *testing.T) {
	checkPuzzles(t, []puzzleCase{
		{"a clue told twice", "3x1:0.0.1,0.0.1", "*** **. *.* *..", "*??", "0 1", "8 4 4", 0, ""},
		{"a clue that solves it told twice", "3x1:1.3.0,1.3.0", "***", "***", "0 1", "8 1 1", 0, "3x1:1.3.0"},
		{"a clue told twice among others", "3x1:0.0.1,2.1.2,0.0.1,0.1.0", "*.*", "*.*", "0 2", "8 4 2 2 1", 1, "3x1:2.1.2,0.1.0"},
		{"needless alone, but not together", "2x1:0.0.1,1.1.0,0.1.0", "*.", "*.", "0 1 2", "4 2 1 1", 0, "2x1:1.1.0,0.1.0"},
		{"needless alone, in any two", "3x1:1.0.0,3.0.0,4.0.0,5.0.0", "...", "...", "0 1 2 3", "8 1 1 1 1", 0, "3x1:4.0.0,5.0.0"},
		{"none is needless", "2x2:0.0.1,0.1.0,0.2.0,0.3.1", "*./.*", "*./.*", "", "16 8 4 2 1", 0, "2x2:0.0.1,0.1.0,0.2.0,0.3.1"},
	})
}

// TestHarderByNoneSomeAndMost: clues are taken out from the first one on. One of them always stays, as without clues there are two solutions at least.
func TestHarderByNoneSomeAndMost(t *testing.T) {
	checkPuzzles(t, []puzzleCase{
		{"harder without any", "2x1:0.0.1,0.1.0", "*.", "*.", "", "4 2 1", 0, "2x1:0.0.1,0.1.0"},
		{"harder without the first clues", "3x1:4.0.1,0.0.1,2.1.2,1.3.0", "***", "***", "0 1 2", "8 4 4 2 1", 3, "3x1:1.3.0"},
		{"harder without the last clues", "2x2:3.0.0,2.0.2,1.2.0,0.2.1", "../**", "../**", "1 2 3", "16 4 1 1 1", 0, "2x2:3.0.0,1.2.0"},
		{"harder without all but the last one", "3x1:0.0.0,0.1.0,0.2.0,1.0.0", "...", "...", "0 1 2 3", "8 4 2 1 1", 3, "3x1:1.0.0"},
		{"harder without some in between", "3x2:2.1.0,0.0.0,4.1.1,1.1.0,0.1.1,5.5.0", ".*./...", ".*./...", "0 1 2 3 4 5", "64 2 2 1 1 1 1", 0, "3x2:1.1.0,0.1.1"},
	})
}

// TestBestClues: the first one of several, also if no hidden board fits them.
func TestBestClues(t *testing.T) {
	checkPuzzles(t, []puzzleCase{
		{"the best clue comes last", "3x1:0.0.1,0.1.0,1.3.0", "", "", "0", "8 4 2 0", 2, ""},
		{"the first of several best clues", "3x2:0.2.1,1.1.0,4.2.1,1.5.0,0.0.0", "", "", "0 1 2 4", "64 32 1 1 0 0", 1, ""},
		{"the first of several best clues, with a solution", "3x2:0.2.1,4.2.2,4.1.0,3.0.1", "..*/*.* ..*/..*", "..*/?.*", "0", "64 32 16 4 2", 1, ""},
		{"the first of best clues that no hidden board fits", "2x2:0.0.1,5.1.0,3.0.3,0.0.0", "", "", "0 1 2 3", "16 8 0 0 0", 1, ""},
	})
}

// TestPuzzlesWithoutClues: all boards of the size are solutions, and nothing is sure.
func TestPuzzlesWithoutClues(t *testing.T) {
	for _, size := range [][2]int{{1, 1}, {1, 2}, {3, 1}, {2, 2}, {3, 3}, {4, 2}, {2, 4}, {8, 1}, {1, 8}} {
		m := sizeModelOf(size[0], size[1])
		text := fmt.Sprintf("%dx%d:", m.width, m.height)
		boards := []string{}
		for _, b := range m.boards {
			boards = append(boards, b.text)
		}
		unsure := strings.ReplaceAll(boards[0], "*", "?")
		checkPuzzles(t, []puzzleCase{{text, text, strings.Join(boards, " "), unsure, "", fmt.Sprint(len(boards)), -1, ""}})
	}
}

// clueLimits are the greatest A and B of each kind for a size.
type clueLimits struct {
	width  int
	height int
	a      [6]int
	b      [6]int
}

// TestCluesAtTheirLimits: each kind of clue at each end of its bounds, and one beyond.
func TestCluesAtTheirLimits(t *testing.T) {
	mostB := [6]int{1, 0, 8, 8, 8, 0}
	for _, limits := range []clueLimits{
		{1, 1, [6]int{0, 1, 0, 0, 0, 100}, mostB},
		{3, 2, [6]int{5, 6, 5, 1, 2, 100}, mostB},
		{2, 3, [6]int{5, 6, 5, 2, 1, 100}, mostB},
		{3, 3, [6]int{8, 9, 8, 2, 2, 100}, mostB},
		{8, 1, [6]int{7, 8, 7, 0, 7, 100}, mostB},
		{1, 8, [6]int{7, 8, 7, 7, 0, 100}, mostB},
	} {
		for kind := range 6 {
			mostA, mostB := limits.a[kind], limits.b[kind]
			for _, a := range []int{-1, 0, mostA, mostA + 1} {
				for _, b := range []int{-1, 0, mostB, mostB + 1} {
					checkClue(t, limits.width, limits.height, clue(kind, a, b), a >= 0 && a <= mostA && b >= 0 && b <= mostB)
				}
			}
		}
	}
}

// checkClue: all functions that take a clue tell whether it is one.
func checkClue(t *testing.T, width int, height int, c impl.Clue, is bool) {
	t.Helper()
	one := impl.Puzzle{Width: width, Height: height, Clues: []impl.Clue{c}}
	text, name := textOfPuzzle(one), fmt.Sprint(c, " of ", width, " by ", height)
	_, fitOK := impl.DoesFit(c, textOfBits(width, height, 5))
	wantAdded, wantText := "{0 0 []} false", " false"
	if is {
		wantAdded, wantText = told(one, true), told(text, true)
	}
	checkCases(t, []boardCase{
		{"IsClue " + name, told(impl.IsClue(width, height, c)), told(is)},
		{"IsPuzzle " + name, told(impl.IsPuzzle(one)), told(is)},
		{"DoesFit succeeds for " + name, told(fitOK), told(is)},
		{"AddClue " + name, two(impl.AddClue(impl.Puzzle{Width: width, Height: height}, c)), wantAdded},
		{"PuzzleText " + name, two(impl.PuzzleText(one)), wantText},
		{"ParsePuzzle " + name, two(impl.ParsePuzzle(text)), wantAdded},
	})
}

// TestNoCluesFail: kinds, cells, rows, columns and numbers that there are not.
func TestNoCluesFail(t *testing.T) {
	for _, c := range noClues() {
		for _, size := range [][2]int{{1, 1}, {3, 2}, {3, 3}, {8, 1}, {1, 8}} {
			checkClue(t, size[0], size[1], c, false)
			checkCases(t, []boardCase{{fmt.Sprint("DoesFit ", c), two(impl.DoesFit(c, textOfBits(size[0], size[1], 0))), "false false"}})
		}
	}
	// There are as many clues of no size at all.
	for _, size := range noHiddenSizes() {
		for kind := range 6 {
			c := clue(kind, 0, 0)
			if impl.IsClue(size[0], size[1], c) {
				t.Errorf("IsClue %d %d %v is true", size[0], size[1], c)
			}
		}
	}
}

// noClues are clues of no size.
func noClues() []impl.Clue {
	clues := []impl.Clue{
		clue(0, 0, 2), clue(0, 9, 0), clue(1, 0, 1), clue(1, 1, 1), clue(1, 10, 0), clue(1, 0, -1), clue(2, 0, 9), clue(2, 9, 0), clue(3, 8, 0), clue(3, 0, 9),
		clue(4, 8, 0), clue(4, 0, 9), clue(5, 0, 1), clue(5, 1, 1), clue(5, 101, 0), clue(5, 0, -1), clue(-1, 0, 0), clue(6, 0, 0), clue(6, 0, 1), clue(7, 1, 0),
	}
	for _, number := range []int{math.MinInt, math.MinInt + 1, -1 << 32, -1, 1 << 31, 1 << 32, 1<<32 | 1, 1 << 61, math.MaxInt - 1, math.MaxInt} {
		clues = append(clues, clue(number, 0, 0), clue(number, number, number))
		for kind := range 6 {
			clues = append(clues, clue(kind, number, 0), clue(kind, 0, number))
		}
	}
	return clues
}

// noHiddenSizes are those of no hidden boards: with more than MaxPuzzled cells, or a side that there is not.
func noHiddenSizes() [][2]int {
	sizes := [][2]int{
		{0, 0}, {0, 1}, {1, 0}, {9, 1}, {1, 9}, {-1, -9}, {-3, -3}, {-3, 3}, {3, -3}, {5, 2}, {2, 5}, {4, 3}, {3, 4}, {8, 2}, {2, 8}, {6, 2}, {8, 8}, {10, 1},
		{1 << 32, 1 << 32}, {math.MinInt, math.MinInt}, {math.MaxInt, math.MaxInt}, {1 << 61, 8}, {8, 1 << 61}, {1<<61 | 1, 8}, {math.MinInt, 2}, {2, math.MinInt},
	}
	for _, side := range oddInts() {
		if side < 1 || side > 8 {
			sizes = append(sizes, [2]int{side, 1}, [2]int{1, side}, [2]int{side, 3}, [2]int{3, side})
		}
	}
	return sizes
}

func TestDoesFitOrNot(t *testing.T) {
	cases := []struct {
		what string
		c    impl.Clue
		b    string
		want string
	}{
		{"a mine that is there", clue(0, 2, 1), "..*/...", "true true"},
		{"a mine that is not there", clue(0, 3, 1), "..*/...", "false true"},
		{"no mine where there is none", clue(0, 3, 0), "..*/...", "true true"},
		{"no mine where there is one", clue(0, 2, 0), "..*/...", "false true"},
		{"the mines", clue(1, 2, 0), "..*/*..", "true true"},
		{"fewer mines", clue(1, 1, 0), "..*/*..", "false true"},
		{"more mines", clue(1, 3, 0), "..*/*..", "false true"},
		{"no mines", clue(1, 0, 0), ".../...", "true true"},
		{"mines alone", clue(1, 9, 0), "***/***/***", "true true"},
		{"the number of a free cell", clue(2, 4, 2), "..*/*..", "true true"},
		{"another number of a free cell", clue(2, 4, 1), "..*/*..", "false true"},
		{"the number of a mine", clue(2, 1, 2), "***", "true true"},
		{"the number of a mine, counted with it", clue(2, 1, 3), "***", "false true"},
		{"the number of a lonely mine", clue(2, 0, 0), "*.*", "true true"},
		{"the greatest number of a free cell", clue(2, 4, 8), "***/*.*/***", "true true"},
		{"the greatest number of a mine", clue(2, 4, 8), "***/***/***", "true true"},
		{"the first row", clue(3, 0, 2), "**./..*", "true true"},
		{"the last row", clue(3, 1, 1), "**./..*", "true true"},
		{"another row", clue(3, 1, 2), "**./..*", "false true"},
		{"a row of eight mines", clue(3, 0, 8), "********", "true true"},
		{"more mines than a row has cells", clue(3, 0, 8), "***", "false true"},
		{"the first column", clue(4, 0, 2), "*../*.*", "true true"},
		{"the middle column", clue(4, 1, 0), "*../*.*", "true true"},
		{"the last column", clue(4, 2, 1), "*../*.*", "true true"},
		{"another column", clue(4, 2, 2), "*../*.*", "false true"},
		{"a column of eight mines", clue(4, 0, 8), "*/*/*/*/*/*/*/*", "true true"},
		{"the sum", clue(5, 6, 0), "*../.../..*", "true true"},
		{"another sum", clue(5, 8, 0), "*../.../..*", "false true"},
		{"a sum without the numbers of mines", clue(5, 0, 0), "***", "true true"},
		{"a sum that there is not", clue(5, 100, 0), "***/.../***", "false true"},
		{"a single mine", clue(0, 0, 1), "*", "true true"},
		{"a single cell without a mine", clue(1, 1, 0), ".", "false true"},
		{"a row of nine", clue(0, 0, 1), "*........", "false false"},
		{"a column of nine", clue(0, 0, 1), "*/./././././././.", "false false"},
		{"a board of ten cells", clue(0, 0, 1), "*..../.....", "false false"},
		{"a board of twelve cells", clue(1, 1, 0), "*.../..../....", "false false"},
		{"8 by 8", clue(1, 0, 0), full("."), "false false"},
		{"a cell of wider boards", clue(0, 3, 0), "...", "false false"},
		{"a row of higher boards", clue(3, 1, 0), "...", "false false"},
		{"a column of wider boards", clue(4, 2, 0), "../../..", "false false"},
		{"more mines than there are cells", clue(1, 4, 0), "***", "false false"},
	}
	for _, c := range cases {
		checkCases(t, []boardCase{{c.what, two(impl.DoesFit(c.c, c.b)), c.want}})
	}
	for _, s := range noBoards() {
		checkCases(t, []boardCase{
			{"DoesFit " + s, two(impl.DoesFit(clue(0, 0, 0), s)), "false false"},
			{"DoesFit with no mines " + s, two(impl.DoesFit(clue(1, 0, 0), s)), "false false"},
			{"MakePuzzle " + s, two(impl.MakePuzzle(s, 1, 1)), "{0 0 []} false"},
			{"MakePuzzle without clues " + s, two(impl.MakePuzzle(s, 0, 0)), "{0 0 []} false"},
		})
	}
}

func TestDropClueAndAddClue(t *testing.T) {
	p := puzzleOf("3x1:2.1.1,1.1.0,0.0.1")
	seven, eight := strings.Repeat("1.1.0,", 7), strings.Repeat("1.1.0,", 8)
	checkCases(t, []boardCase{
		{"without the first clue", two(impl.DropClue(p, 0)), "{3 1 [{1 1 0} {0 0 1}]} true"},
		{"without the middle one", two(impl.DropClue(p, 1)), "{3 1 [{2 1 1} {0 0 1}]} true"},
		{"without the last one", two(impl.DropClue(p, 2)), "{3 1 [{2 1 1} {1 1 0}]} true"},
		{"without the only one", two(impl.DropClue(puzzleOf("3x1:2.1.1"), 0)), "{3 1 []} true"},
		{"without one of eight", two(impl.DropClue(puzzleOf("3x1:"+seven+"0.0.1"), 3)), told(puzzleOf("3x1:"+strings.Repeat("1.1.0,", 6)+"0.0.1"), true)},
		{"with a first clue", two(impl.AddClue(puzzleOf("2x4:"), clue(3, 3, 0))), "{2 4 [{3 3 0}]} true"},
		{"with a fourth clue", two(impl.AddClue(p, clue(5, 1, 0))), "{3 1 [{2 1 1} {1 1 0} {0 0 1} {5 1 0}]} true"},
		{"with a clue that is there", two(impl.AddClue(p, clue(2, 1, 1))), "{3 1 [{2 1 1} {1 1 0} {0 0 1} {2 1 1}]} true"},
		{"with a clue that no solution fits", two(impl.AddClue(p, clue(1, 3, 0))), "{3 1 [{2 1 1} {1 1 0} {0 0 1} {1 3 0}]} true"},
		{"with an eighth clue", two(impl.AddClue(puzzleOf("3x1:"+seven), clue(0, 2, 1))), told(puzzleOf("3x1:"+seven+"0.2.1"), true)},
		{"with a ninth clue", two(impl.AddClue(puzzleOf("3x1:"+eight), clue(0, 2, 1))), "{0 0 []} false"},
		{"with a clue of wider boards", two(impl.AddClue(p, clue(0, 3, 1))), "{0 0 []} false"},
		{"with a clue of higher boards", two(impl.AddClue(p, clue(3, 1, 1))), "{0 0 []} false"},
	})
	for _, k := range append(oddInts(), 2, 3) {
		for _, clues := range []string{"", "2.1.1", "2.1.1,1.1.0,0.0.1", eight} {
			q := puzzleOf("3x1:" + clues)
			if k < 0 || k >= len(q.Clues) {
				checkCases(t, []boardCase{{fmt.Sprint("DropClue ", clues, " ", k), two(impl.DropClue(q, k)), "{0 0 []} false"}})
			}
		}
	}
	for _, c := range noClues() {
		checkCases(t, []boardCase{
			{fmt.Sprint("AddClue ", c), two(impl.AddClue(p, c)), "{0 0 []} false"},
			{fmt.Sprint("AddClue as the eighth one ", c), two(impl.AddClue(puzzleOf("3x3:"+seven), c)), "{0 0 []} false"},
		})
	}
}

// TestMadePuzzles: the kinds of clues are drawn, and with them cells, rows and columns.
func TestMadePuzzles(t *testing.T) {
	cases := []struct {
		b     string
		clues int
		seed  int
		want  string
	}{
		{"*../.../..*", 0, 0, "3x3:"},
		{"*../.../..*", 1, 0, "3x3:1.2.0"},
		{"*../.../..*", 8, 0, "3x3:1.2.0,4.1.0,3.0.1,3.1.0,0.3.0,1.2.0,2.8.0,1.2.0"},
		{"*../.../..*", 8, 9999, "3x3:3.0.1,5.6.0,1.2.0,2.6.0,2.8.0,1.2.0,2.5.1,5.6.0"},
		{"*../.../..*", 8, 1, "3x3:0.1.0,1.2.0,4.0.1,2.7.1,4.0.1,4.0.1,3.1.0,0.7.0"},
		{".*./*.*/...", 8, 1, "3x3:0.1.1,1.3.0,4.0.1,2.7.2,4.0.1,4.0.1,3.1.2,0.7.0"},
		{".*./*.*/...", 8, 9999, "3x3:3.0.1,5.11.0,1.3.0,2.6.1,2.8.1,1.3.0,2.5.1,5.11.0"},
		{"*../**./..*", 5, 77, "3x3:3.0.1,4.2.1,4.1.1,3.1.2,1.4.0"},
		{"*", 8, 0, "1x1:1.1.0,4.0.1,3.0.1,3.0.1,0.0.1,1.1.0,2.0.0,1.1.0"},
		{"*", 8, 9999, "1x1:3.0.1,5.0.0,1.1.0,2.0.0,2.0.0,1.1.0,2.0.0,5.0.0"},
		{".", 8, 1, "1x1:0.0.0,1.0.0,4.0.0,2.0.0,4.0.0,4.0.0,3.0.0,0.0.0"},
		{".", 0, 9999, "1x1:"},
		{"*.*.*.*.", 8, 1, "8x1:0.5.0,1.4.0,4.7.0,2.7.1,4.6.1,4.7.0,3.0.4,0.2.1"},
		{"*/./*/./*/*/./.", 8, 1, "1x8:0.5.1,1.4.0,4.0.4,2.7.0,4.0.4,4.0.4,3.4.1,0.2.1"},
		{"*./.*/**/..", 8, 2026, "2x4:3.3.0,5.10.0,2.3.3,3.1.1,4.1.2,5.10.0,0.3.1,0.2.0"},
		{"****/*..*", 7, 4711, "4x2:4.1.1,3.0.4,0.5.0,3.1.2,0.1.1,1.6.0,1.6.0"},
		{"..", 1, 5, "2x1:2.0.0"},
	}
	for _, c := range cases {
		checkCases(t, []boardCase{
			{fmt.Sprint("MakePuzzle ", c.b, " ", c.clues, " ", c.seed), two(impl.MakePuzzle(c.b, c.clues, c.seed)), told(puzzleOf(c.want), true)},
		})
	}
}

func TestPuzzlesThatAreNotMade(t *testing.T) {
	for _, b := range []string{"*", "*../.../..*", "********"} {
		for _, number := range append(oddInts(), 2, 10, 9999, 10000, 10007) {
			if number < 0 || number > 8 {
				checkCases(t, []boardCase{{fmt.Sprint("MakePuzzle ", b, " with clues ", number), two(impl.MakePuzzle(b, number, 1)), "{0 0 []} false"}})
			}
			if number < 0 || number > 9999 {
				checkCases(t, []boardCase{
					{fmt.Sprint("MakePuzzle ", b, " with the seed ", number), two(impl.MakePuzzle(b, 1, number)), "{0 0 []} false"},
					{fmt.Sprint("MakePuzzle ", b, " without clues, with the seed ", number), two(impl.MakePuzzle(b, 0, number)), "{0 0 []} false"},
				})
			}
		}
	}
	for _, b := range []string{"*........", "*/./././././././.", "*..../.....", "../../../../*.", "*.../..../....", "......../........", full(".")} {
		for clues := range 9 {
			checkCases(t, []boardCase{{"MakePuzzle " + b, two(impl.MakePuzzle(b, clues, 7)), "{0 0 []} false"}})
		}
	}
}

// noPuzzles are puzzles of no hidden boards, with a clue that is none, or with too many.
func noPuzzles() []impl.Puzzle {
	var puzzles []impl.Puzzle
	for _, size := range noHiddenSizes() {
		puzzles = append(puzzles,
			impl.Puzzle{Width: size[0], Height: size[1]},
			impl.Puzzle{Width: size[0], Height: size[1], Clues: []impl.Clue{clue(1, 0, 0)}})
	}
	good := puzzleOf("3x3:0.8.1,2.4.3,5.100.0").Clues
	for _, c := range noClues() {
		for k := range good {
			clues := slices.Clone(good)
			clues[k] = c
			puzzles = append(puzzles, impl.Puzzle{Width: 3, Height: 3, Clues: clues})
		}
	}
	for _, count := range []int{9, 10, 16, 100, 256, 264, 1 << 16} {
		puzzles = append(puzzles, impl.Puzzle{Width: 2, Height: 2, Clues: slices.Repeat([]impl.Clue{clue(0, 0, 1)}, count)})
	}
	// Clues of other sizes.
	return append(puzzles, puzzleOf("3x1:0.3.1"), puzzleOf("3x2:3.2.0"), puzzleOf("2x3:4.2.0"), puzzleOf("2x2:1.5.0"), puzzleOf("1x1:2.1.0"), puzzleOf("8x1:3.1.0"))
}

func TestNoPuzzlesFail(t *testing.T) {
	for _, p := range noPuzzles() {
		name := fmt.Sprint(p)
		checkCases(t, []boardCase{
			{"all of " + name, callPuzzle(p), puzzleFail},
			{"DropClue " + name, two(impl.DropClue(p, 0)), "{0 0 []} false"},
			{"DropClue the third one " + name, two(impl.DropClue(p, 2)), "{0 0 []} false"},
			{"AddClue " + name, two(impl.AddClue(p, clue(0, 0, 0))), "{0 0 []} false"},
			{"AddClue with no mines " + name, two(impl.AddClue(p, clue(1, 0, 0))), "{0 0 []} false"},
			{"ParsePuzzle " + name, two(impl.ParsePuzzle(textOfPuzzle(p))), "{0 0 []} false"},
		})
	}
}

func TestTextsThatAreNoPuzzles(t *testing.T) {
	large, clues := "99999999999999999999", strings.Repeat("1.1.0,", 7)
	texts := []string{
		"", ":", "x", "x:", "3", "3x", "3x1", "x1:", "3:", "3x:", "3x1;", "3,1:", "31:", "3X1:", "3x1x1:", "3x1::", "3x1:,", "0x0:", "0x1:", "3x0:",
		"03x1:", "3x01:", "+3x1:", "-3x1:", "3x+1:", "3x-1:", " 3x1:", "3x1: ", "3 x1:", "3x 1:", "3x1:\n", "\n3x1:", "3x1:\x00", "0x3x1:", "0b11x1:", "3e0x1:", "3.0x1:", "1_0x1:",
		"9x1:", "1x9:", "5x2:", "4x3:", "8x8:", large + "x1:", "3x" + large + ":", "-" + large + "x1:", "4294967299x1:", "18446744073709551619x1:",
		"3x1:2", "3x1:2.1", "3x1:2.1.", "3x1:.1.1", "3x1:2..1", "3x1:2.1.1.", "3x1:2.1.1.0", "3x1:.2.1.1", "3x1:2,1,1", "3x1:2:1:1", "3x1:..", "3x1:.", "3x1:2.1.1:",
		"3x1:2.1.1,", "3x1:,2.1.1", "3x1:2.1.1,,1.1.0", "3x1:2.1.1;1.1.0", "3x1:2.1.1 1.1.0", "3x1:2.1.1, 1.1.0", "3x1:2.1.1.1.1.0", "3x1:2.1.1,1.1.0,\n", "3x1:2.1.1\n,1.1.0",
		"3x1:02.1.1", "3x1:2.01.1", "3x1:2.1.01", "3x1:00.0.1", "3x1:+2.1.1", "3x1:2.+1.1", "3x1:2.1.+1", "3x1:-0.0.1", "3x1:0.-0.1", "3x1:1.1.-0", "3x1:-2.1.1", "3x1:2.-1.1", "3x1:2.1.-1",
		"3x1: 2.1.1", "3x1:2. 1.1", "3x1:2.1 .1", "3x1:2.1.1 ", "3x1:2.1.9", "3x1:6.0.0", "3x1:0.3.1", "3x1:1.1.1", "3x1:5.101.0", "3x1:a.1.1", "3x1:2.a.1", "3x1:2.1.a", "3x1:٢.1.1",
		"3x1:" + large + ".1.1", "3x1:2." + large + ".1", "3x1:2.1." + large, "3x1:2.1.4294967297", "3x1:2.1.18446744073709551617", "3x1:2.-18446744073709551615.1",
		"3x1:" + clues + "1.1.0,0.0.1", "3x1:" + clues + "1.1.0,", "3x1:" + strings.Repeat(",", 1<<20), "3x1:" + strings.Repeat("1.1.0,", 1<<17) + "1.1.0",
		strings.Repeat("3", 1<<20) + "x1:", strings.Repeat("0", 1<<20), strings.Repeat("x", 1<<20), strings.Repeat(":", 1<<20), "3x1:" + strings.Repeat(".", 1<<20), "\xff", "3x1:\xff",
	}
	for _, s := range append(texts, noBoards()...) {
		checkCases(t, []boardCase{{"ParsePuzzle " + s, two(impl.ParsePuzzle(s)), "{0 0 []} false"}})
	}
}
