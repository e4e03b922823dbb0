package tests

import (
	"fmt"
	"math"
	"regexp"
	"strings"
	"testing"

	"loop.example/g01294/impl"
)

// told tells all results of a call in one text; a nil slice is told as an empty one.
func told(results ...any) string {
	return strings.TrimSuffix(fmt.Sprintln(results...), "\n")
}

func two[A any, B any](a A, b B) string { return told(a, b) }

func three[A any, B any, C any](a A, b B, c C) string { return told(a, b, c) }

type boardCase struct {
	call string
	got  string
	want string
}

func checkCases(t *testing.T, cases []boardCase) {
	t.Helper()
	for _, c := range cases {
		if c.got != c.want {
			t.Errorf("%.200s: %.200q, want %.200q", c.call, c.got, c.want)
		}
	}
}

// full is the 8 by 8 board all of whose cells have a sign.
func full(sign string) string {
	return strings.TrimSuffix(strings.Repeat(strings.Repeat(sign, 8)+"/", 8), "/")
}

func TestBoardExample(t *testing.T) {
	b := "*../.../..*"
	checkCases(t, []boardCase{
		{"PictureOf", two(impl.PictureOf(b)), "*10/121/01* true"},
		{"SumOfNumbers", two(impl.SumOfNumbers(b)), "6 true"},
		{"NeighboursOf 0", two(impl.NeighboursOf(b, 0)), "[1 3 4] true"},
		{"OtherBoard", two(impl.OtherBoard(b)), ".**/***/**. true"},
		{"NumberAt 0 of it", two(impl.NumberAt(".**/***/**.", 0)), "3 true"},
		{"NumberAt 8 of it", two(impl.NumberAt(".**/***/**.", 8)), "3 true"},
		{"SumOfNumbers of it", two(impl.SumOfNumbers(".**/***/**.")), "6 true"},
		{"ZerosOf", two(impl.ZerosOf(b)), "[2 6] true"},
		{"LonelyMines", two(impl.LonelyMines(b)), "[0 8] true"},
	})
}

func TestOrdinaryBoards(t *testing.T) {
	b := "**../...*/*..*"
	checkCases(t, []boardCase{
		{"SizeOf", three(impl.SizeOf(b)), "4 3 true"},
		{"CountMines", two(impl.CountMines(b)), "5 true"},
		{"MinesOf", two(impl.MinesOf(b)), "[0 1 7 8 11] true"},
		{"BoardOfMines", two(impl.BoardOfMines(4, 3, []int{0, 1, 7, 8, 11})), b + " true"},
		{"NeighboursOf 5", two(impl.NeighboursOf(b, 5)), "[0 1 2 4 6 8 9 10] true"},
		{"NeighboursOf 7", two(impl.NeighboursOf(b, 7)), "[2 3 6 10 11] true"},
		{"NumberAt a free cell", two(impl.NumberAt(b, 6)), "3 true"},
		{"NumberAt a mine", two(impl.NumberAt(b, 11)), "1 true"},
		{"NumbersOf", two(impl.NumbersOf(b)), "[1 1 2 1 3 3 3 1 0 1 2 1] true"},
		{"PictureOf", two(impl.PictureOf(b)), "**21/333*/*12* true"},
		{"SumOfNumbers", two(impl.SumOfNumbers(b)), "15 true"},
		{"PutMine", two(impl.PutMine(b, 6)), "**../..**/*..* true"},
		{"PutMine in a mine", two(impl.PutMine(b, 7)), " false"},
		{"TakeMine", two(impl.TakeMine(b, 7)), "**../..../*..* true"},
		{"TakeMine from a free cell", two(impl.TakeMine(b, 6)), " false"},
		{"OtherBoard", two(impl.OtherBoard(b)), "..**/***./.**. true"},
		{"TurnBoard", two(impl.TurnBoard(b)), "*.*/..*/.../**. true"},
		{"MirrorBoard", two(impl.MirrorBoard(b)), "..**/*.../*..* true"},
		{"BesideBoard", two(impl.BesideBoard(b, ".*/../**")), "**...*/...*../*..*** true"},
		{"BesideBoard the other way", two(impl.BesideBoard(".*/../**", b)), ".***../.....*/***..* true"},
		{"ZerosOf", two(impl.ZerosOf("*.../..../....")), "[2 3 6 7 8 9 10 11] true"},
		{"GroupsOfMines", two(impl.GroupsOfMines(b)), "[[0 1] [7 11] [8]] true"},
		{"GroupsOfMines that meet late", two(impl.GroupsOfMines("*.*/*.*/.*.")), "[[0 2 3 5 7]] true"},
		{"GroupsOfMines one row around", two(impl.GroupsOfMines("..*/*../...")), "[[2] [3]] true"},
		{"LonelyMines", two(impl.LonelyMines(b)), "[8] true"},
	})
}

func TestSingleCells(t *testing.T) {
	checkCases(t, []boardCase{
		{"SizeOf", three(impl.SizeOf(".")), "1 1 true"},
		{"CountMines", two(impl.CountMines(".")), "0 true"},
		{"MinesOf", two(impl.MinesOf(".")), "[] true"},
		{"MinesOf a mine", two(impl.MinesOf("*")), "[0] true"},
		{"BoardOfMines", two(impl.BoardOfMines(1, 1, nil)), ". true"},
		{"BoardOfMines a mine", two(impl.BoardOfMines(1, 1, []int{0})), "* true"},
		{"NeighboursOf", two(impl.NeighboursOf(".", 0)), "[] true"},
		{"NumberAt", two(impl.NumberAt("*", 0)), "0 true"},
		{"NumbersOf", two(impl.NumbersOf("*")), "[0] true"},
		{"PictureOf", two(impl.PictureOf(".")), "0 true"},
		{"PictureOf a mine", two(impl.PictureOf("*")), "* true"},
		{"SumOfNumbers", two(impl.SumOfNumbers(".")), "0 true"},
		{"PutMine", two(impl.PutMine(".", 0)), "* true"},
		{"TakeMine", two(impl.TakeMine("*", 0)), ". true"},
		{"OtherBoard", two(impl.OtherBoard(".")), "* true"},
		{"TurnBoard", two(impl.TurnBoard("*")), "* true"},
		{"MirrorBoard", two(impl.MirrorBoard("*")), "* true"},
		{"BesideBoard", two(impl.BesideBoard("*", ".")), "*. true"},
		{"ZerosOf", two(impl.ZerosOf(".")), "[0] true"},
		{"ZerosOf a mine", two(impl.ZerosOf("*")), "[] true"},
		{"GroupsOfMines", two(impl.GroupsOfMines("*")), "[[0]] true"},
		{"LonelyMines", two(impl.LonelyMines("*")), "[0] true"},
		{"LonelyMines of none", two(impl.LonelyMines(".")), "[] true"},
	})
}

func TestRowsAndColumns(t *testing.T) {
	row, column := ".**..*.*", "././*/./*/*/./."
	checkCases(t, []boardCase{
		{"SizeOf a row", three(impl.SizeOf(row)), "8 1 true"},
		{"SizeOf a column", three(impl.SizeOf(column)), "1 8 true"},
		{"NeighboursOf in a row", two(impl.NeighboursOf(row, 7)), "[6] true"},
		{"NeighboursOf in a column", two(impl.NeighboursOf(column, 3)), "[2 4] true"},
		{"PictureOf a row", two(impl.PictureOf(row)), "1**11*2* true"},
		{"PictureOf a column", two(impl.PictureOf(column)), "0/1/*/2/*/*/1/0 true"},
		{"TurnBoard a row", two(impl.TurnBoard(row)), "./*/*/././*/./* true"},
		{"TurnBoard a column", two(impl.TurnBoard(column)), "..**.*.. true"},
		{"MirrorBoard a row", two(impl.MirrorBoard(row)), "*.*..**. true"},
		{"MirrorBoard a column", two(impl.MirrorBoard(column)), column + " true"},
		{"GroupsOfMines in a row", two(impl.GroupsOfMines(row)), "[[1 2] [5] [7]] true"},
		{"GroupsOfMines in a column", two(impl.GroupsOfMines(column)), "[[2] [4 5]] true"},
		{"LonelyMines in a row", two(impl.LonelyMines(row)), "[5 7] true"},
		{"ZerosOf a column", two(impl.ZerosOf(column)), "[0 7] true"},
		{"BesideBoard of columns", two(impl.BesideBoard("*/.", "./.")), "*./.. true"},
	})
}

func TestFullAndFreeBoards(t *testing.T) {
	free, mined := full("."), full("*")
	cells := make([]int, 64)
	for cell := range cells {
		cells[cell] = cell
	}
	checkCases(t, []boardCase{
		{"SizeOf", three(impl.SizeOf(free)), "8 8 true"},
		{"CountMines", two(impl.CountMines(mined)), "64 true"},
		{"MinesOf no mines", two(impl.MinesOf(free)), "[] true"},
		{"MinesOf all", two(impl.MinesOf(mined)), told(cells, true)},
		{"BoardOfMines none", two(impl.BoardOfMines(8, 8, []int{})), free + " true"},
		{"BoardOfMines all", two(impl.BoardOfMines(8, 8, cells)), mined + " true"},
		{"NeighboursOf the last", two(impl.NeighboursOf(free, 63)), "[54 55 62] true"},
		{"NumberAt", two(impl.NumberAt(mined, 9)), "8 true"},
		{"PictureOf no mines", two(impl.PictureOf(free)), full("0") + " true"},
		{"PictureOf all", two(impl.PictureOf(mined)), mined + " true"},
		{"SumOfNumbers no mines", two(impl.SumOfNumbers(free)), "0 true"},
		{"SumOfNumbers all", two(impl.SumOfNumbers(mined)), "0 true"},
		{"PutMine", two(impl.PutMine(free, 63)), free[:70] + "* true"},
		{"TakeMine", two(impl.TakeMine(mined, 63)), mined[:70] + ". true"},
		{"OtherBoard", two(impl.OtherBoard(free)), mined + " true"},
		{"ZerosOf no mines", two(impl.ZerosOf(free)), told(cells, true)},
		{"ZerosOf all", two(impl.ZerosOf(mined)), "[] true"},
		{"GroupsOfMines none", two(impl.GroupsOfMines(free)), "[] true"},
		{"GroupsOfMines all", two(impl.GroupsOfMines(mined)), told([][]int{cells}, true)},
		{"LonelyMines all", two(impl.LonelyMines(mined)), "[] true"},
		{"BesideBoard up to the limit", two(impl.BesideBoard("*....../.......", "./*")), "*......./.......* true"},
		{"BesideBoard over the limit", two(impl.BesideBoard("......./.......", "../..")), " false"},
		{"BesideBoard of other heights", two(impl.BesideBoard("../..", "..")), " false"},
	})
}

// TestIsBoardOfShortTexts tries all texts of up to seven signs.
func TestIsBoardOfShortTexts(t *testing.T) {
	board := regexp.MustCompile(`\A(?:[.*](?:/[.*])*|[.*]{2}(?:/[.*]{2})*|[.*]{3}(?:/[.*]{3})*|[.*]{4,7})\z`)
	eachText([]string{".", "*", "/", "?"}, 7, func(s string) { checkIsBoard(t, s, board.MatchString(s)) })
}

func checkIsBoard(t *testing.T, s string, want bool) {
	t.Helper()
	if got := impl.IsBoard(s); got != want {
		t.Errorf("IsBoard %.200q: %v, want %v", s, got, want)
	}
}

func TestIsBoardAtTheLimits(t *testing.T) {
	checkIsBoard(t, full("."), true)
	checkIsBoard(t, "........", true)
	checkIsBoard(t, "./././././././.", true)
	for _, s := range noBoards() {
		checkIsBoard(t, s, false)
	}
}

// noBoards are texts that are no boards, for one reason each.
func noBoards() []string {
	texts := []string{
		"", "/", "./", "/.", ".//.", "..//..", "../.", "./..", "../../.", "..\n..", "..\n", ". .", ".\x00", "\xff", "·", "é",
		"0", "?", ".?", "*1/1*", "../..\\..", strings.Repeat(".", 9), "./././././././././.", strings.Repeat("./", 8) + ".",
		full(".") + "/", full(".") + ".", full(".") + "/........", strings.Repeat(".........\n/", 8), strings.Repeat("........./", 7) + ".........",
		strings.Repeat("......../", 8) + "........", strings.Repeat("/", 71), strings.Repeat("/", 72), strings.Repeat(".", 71), strings.Repeat(".", 1<<20), strings.Repeat("/", 1<<20),
	}
	// A sign that is none, in each place of a board.
	good := "*../.../..*"
	for i := range good {
		for _, sign := range []string{"?", "0", "-", "+", "o", "\x00", "\x80"} {
			texts = append(texts, good[:i]+sign+good[i+1:])
		}
	}
	return texts
}

// oddInts are whole numbers at the ends of what there is.
func oddInts() []int {
	return []int{math.MinInt, math.MinInt + 1, -1 << 32, -65, -2, -1, 0, 1, 7, 8, 9, 63, 64, 65, 1 << 31, 1 << 32, 1 << 61, math.MaxInt - 1, math.MaxInt}
}

func TestNoBoardsFail(t *testing.T) {
	for _, s := range noBoards() {
		checkCases(t, []boardCase{
			{"SizeOf " + s, three(impl.SizeOf(s)), "0 0 false"},
			{"CountMines " + s, two(impl.CountMines(s)), "0 false"},
			{"MinesOf " + s, two(impl.MinesOf(s)), "[] false"},
			{"NeighboursOf " + s, two(impl.NeighboursOf(s, 0)), "[] false"},
			{"NumberAt " + s, two(impl.NumberAt(s, 0)), "0 false"},
			{"NumbersOf " + s, two(impl.NumbersOf(s)), "[] false"},
			{"PictureOf " + s, two(impl.PictureOf(s)), " false"},
			{"SumOfNumbers " + s, two(impl.SumOfNumbers(s)), "0 false"},
			{"PutMine " + s, two(impl.PutMine(s, 0)), " false"},
			{"TakeMine " + s, two(impl.TakeMine(s, 0)), " false"},
			{"OtherBoard " + s, two(impl.OtherBoard(s)), " false"},
			{"TurnBoard " + s, two(impl.TurnBoard(s)), " false"},
			{"MirrorBoard " + s, two(impl.MirrorBoard(s)), " false"},
			{"BesideBoard first " + s, two(impl.BesideBoard(s, ".")), " false"},
			{"BesideBoard second " + s, two(impl.BesideBoard(".", s)), " false"},
			{"BesideBoard both " + s, two(impl.BesideBoard(s, s)), " false"},
			{"ZerosOf " + s, two(impl.ZerosOf(s)), "[] false"},
			{"GroupsOfMines " + s, two(impl.GroupsOfMines(s)), "[] false"},
			{"LonelyMines " + s, two(impl.LonelyMines(s)), "[] false"},
		})
	}
}

func TestCellsThatThereAreNot(t *testing.T) {
	for _, b := range []string{".", "*", "*../.../..*", "*......*", "*/./*", full("."), full("*")} {
		for _, cell := range oddInts() {
			if cell >= 0 && cell < modelOf(b).cells() {
				continue
			}
			call := fmt.Sprintf("%s %d", b, cell)
			checkCases(t, []boardCase{
				{"NeighboursOf " + call, two(impl.NeighboursOf(b, cell)), "[] false"},
				{"NumberAt " + call, two(impl.NumberAt(b, cell)), "0 false"},
				{"PutMine " + call, two(impl.PutMine(b, cell)), " false"},
				{"TakeMine " + call, two(impl.TakeMine(b, cell)), " false"},
			})
		}
	}
}

func TestBoardOfMinesThatFails(t *testing.T) {
	lists := [][]int{{-1}, {0, 0}, {1, 0}, {0, 2, 1}, {0, 1, 1}, {6}, {0, 6}, {5, 6}, {math.MinInt}, {math.MaxInt}, {0, math.MaxInt}, {0, math.MinInt}, {0, 1, 2, 3, 4, 5, 6}}
	for _, mines := range lists {
		checkCases(t, []boardCase{{fmt.Sprint("BoardOfMines 3 2 ", mines), two(impl.BoardOfMines(3, 2, mines)), " false"}})
	}
	for _, width := range oddInts() {
		for _, height := range oddInts() {
			if width >= 1 && width <= 8 && height >= 1 && height <= 8 {
				continue
			}
			for _, mines := range [][]int{nil, {0}} {
				checkCases(t, []boardCase{{fmt.Sprint("BoardOfMines ", width, height, mines), two(impl.BoardOfMines(width, height, mines)), " false"}})
			}
		}
	}
}
