package tests

import (
	"fmt"
	"math/big"
	"strings"
	"testing"

	"loop.example/g01294/impl"
)

func TestBestExample(t *testing.T) {
	checkCases(t, []boardCase{
		{"MustGuess ?1?", two(impl.MustGuess("?1?", 1)), "true true"},
		{"WinsFrom ?1?", two(impl.WinsFrom("?1?", 1)), "1 true"},
		{"WinChance ?1?", three(impl.WinChance("?1?", 1)), "1 2 true"},
		{"BestCells ?1?", two(impl.BestCells("?1?", 1)), "[0 2] true"},
		{"PlayBest ?1? *..", three(impl.PlayBest("?1?", "*..")), "[0] false true"},
		{"FirstChance 3 1 1", three(impl.FirstChance(3, 1, 1)), "2 3 true"},
		{"BestFirst 3 1 1", two(impl.BestFirst(3, 1, 1)), "[0 2] true"},
		{"WinsByCell the middle one", two(impl.WinsByCell("???", 1, 1)), "1 true"},
		{"WinsByCell the first one", two(impl.WinsByCell("???", 1, 0)), "2 true"},
		{"MaxPlayed", fmt.Sprint(impl.MaxPlayed), "8"},
		{"MaxPlayedMines", fmt.Sprint(impl.MaxPlayedMines), "3"},
	})
}

// callPlayed calls every function of chapter 7 that takes a view and a number of mines, and tells what they return.
func callPlayed(v string, mines int, cell int) string {
	return told(
		two(impl.WinsFrom(v, mines)), three(impl.WinChance(v, mines)), two(impl.BestCells(v, mines)), two(impl.WinsByCell(v, mines, cell)),
		two(impl.MustGuess(v, mines)), two(impl.WonBoards(v, mines)), two(impl.OpenSafe(v, mines)), two(impl.IsWon(v, mines)))
}

const playedFail = "0 false 0 0 false [] false 0 false false false [] false  false false false"

// callPlay calls those that play on a board.
func callPlay(v string, b string) string {
	return told(three(impl.PlayBest(v, b)), two(impl.GuessesOf(v, b)))
}

const playFail = "[] false false 0 false"

// callFirst calls those of first openings.
func callFirst(width int, height int, mines int) string {
	return told(two(impl.BestFirst(width, height, mines)), three(impl.FirstChance(width, height, mines)))
}

const firstFail = "[] false 0 0 false"

// toldShare tells a part of some boards as functions of the program tell it.
func toldShare(part int, all int) string { return toldMean(big.NewRat(int64(part), int64(all))) }

// TestOrdinaryPlays: what is won, by which cells, and what is opened for sure. The boards that are won are told with those that fit.
func TestOrdinaryPlays(t *testing.T) {
	cases := []struct {
		v     string
		mines int
		best  string
		guess bool
		won   string
		lost  string
		safe  string
	}{
		// One must guess at once.
		{"?1?", 1, "[0 2]", true, "..*", "*..", "?1?"},
		{"?/1/?", 1, "[0 2]", true, "././*", "*/./.", "?/1/?"},
		{"??", 1, "[0 1]", true, ".*", "*.", "??"},
		{"???", 1, "[0 2]", true, ".*. ..*", "*..", "???"},
		{"???", 2, "[0 1 2]", true, ".**", "*.* **.", "???"},
		{"??/??", 1, "[0 1 2 3]", true, "../.*", "*./.. .*/.. ../*.", "??/??"},
		{"??/??", 3, "[0 1 2 3]", true, ".*/**", "*./** **/.* **/*.", "??/??"},
		{"??1??", 2, "[0 1 3 4]", true, ".*..* ...**", "**... *..*.", "??1??"},
		{"?1???", 2, "[2 3]", true, "*..*. *...*", "..**. ..*.*", "?1???"},
		{"??/11/??", 1, "[0 1 4 5]", true, ".*/../.. ../../.*", "*./../.. ../../*.", "??/11/??"},
		// A cell is safe, and tells all.
		{"?1??0", 1, "[3]", false, "*.... ..*..", "", ""},
		{"?1???", 1, "[3 4]", false, "*.... ..*..", "", ""},
		{"????/1?11", 2, "[1 5]", false, "*.*./.... *..*/....", "", ""},
		// A cell is safe, and one must guess later.
		{"?10?/?10?", 1, "[0 3 4 7]", false, "..../*...", "*.../....", "?100/?100"},
		{"????????/11111111/" + full("0")[18:], 3, "[0 1 2 3 4 5 6 7]", false, ".*..*..*" + full(".")[8:], "*..*..*." + full(".")[8:], "??1??1??/11111111/" + full("0")[18:]},
		// One board fits, so that all free cells are safe.
		{"1??0", 1, "[2]", false, ".*..", "", "1?10"},
		{"?2????", 2, "[3 4 5]", false, "*.*...", "", "?2?100"},
		{"???", 0, "[0 1 2]", false, "...", "", "000"},
		{"???/???", 0, "[0 1 2 3 4 5]", false, ".../...", "", "000/000"},
		{"???0/0???", 0, "[0 1 2 5 6 7]", false, "..../....", "", "0000/0000"},
		// It is won already.
		{"?11?", 2, "[]", false, "*..*", "", "?11?"},
		{"???", 3, "[]", false, "***", "", "???"},
		{"?10/121/01?", 2, "[]", false, "*../.../..*", "", "?10/121/01?"},
		{full("0")[:53] + "/00000011/0000001?", 1, "[]", false, full(".")[:70] + "*", "", full("0")[:53] + "/00000011/0000001?"},
	}
	for _, c := range cases {
		call := fmt.Sprintf(" %s %d", c.v, c.mines)
		won, lost := strings.Fields(c.won), strings.Fields(c.lost)
		checkCases(t, []boardCase{
			{"CountFitting" + call, two(impl.CountFitting(c.v, c.mines)), told(len(won)+len(lost), true)},
			{"WinsFrom" + call, two(impl.WinsFrom(c.v, c.mines)), told(len(won), true)},
			{"WinChance" + call, three(impl.WinChance(c.v, c.mines)), toldShare(len(won), len(won)+len(lost))},
			{"BestCells" + call, two(impl.BestCells(c.v, c.mines)), c.best + " true"},
			{"MustGuess" + call, two(impl.MustGuess(c.v, c.mines)), told(c.guess, true)},
			{"WonBoards" + call, two(impl.WonBoards(c.v, c.mines)), told(won, true)},
			{"OpenSafe" + call, two(impl.OpenSafe(c.v, c.mines)), told(c.safe, c.safe != "")},
			{"IsWon" + call, two(impl.IsWon(c.v, c.mines)), told(c.best == "[]", true)},
		})
		for _, b := range won {
			_, isWon, ok := impl.PlayBest(c.v, b)
			same(t, "PlayBest "+c.v+" "+b+" wins", isWon, ok, true)
		}
		for _, b := range lost {
			_, isWon, ok := impl.PlayBest(c.v, b)
			same(t, "PlayBest "+c.v+" "+b+" wins", isWon, ok, false)
		}
	}
}

// TestPlaysOnBoards: they are won at once, or after some cells, and lost at the first cell, or later.
func TestPlaysOnBoards(t *testing.T) {
	cases := []struct {
		v       string
		b       string
		cells   string
		won     bool
		guesses int
	}{
		{"0", ".", "[]", true, 0}, {"00/00", "../..", "[]", true, 0}, {full("0"), full("."), "[]", true, 0},
		{"?", "*", "[]", true, 0}, {"??", "**", "[]", true, 0}, {"???", "***", "[]", true, 0}, {"?11?", "*..*", "[]", true, 0},
		{"?", ".", "[0]", true, 0}, {"??", "..", "[0 1]", true, 0}, {"????????", "........", "[0 1 2 3 4 5 6 7]", true, 0},
		{"?1?", "*..", "[0]", false, 1}, {"?1?", "..*", "[0]", true, 1},
		{"??", "*.", "[0]", false, 1}, {"??", ".*", "[0]", true, 1},
		{"???", "*..", "[0]", false, 1}, {"???", ".*.", "[0 2]", true, 1}, {"???", "..*", "[0 1]", true, 1},
		{"??/??", "*./..", "[0]", false, 1}, {"??/??", ".*/..", "[0 1]", false, 2}, {"??/??", "../*.", "[0 1 2]", false, 3}, {"??/??", "../.*", "[0 1 2]", true, 3},
		{"?1??0", "*....", "[3 2]", true, 0}, {"?1??0", "..*..", "[3 0]", true, 0},
		{"?1???", "*....", "[3 2 4]", true, 0}, {"?1???", "..*..", "[3 0 4]", true, 0},
		{"?1???", "*..*.", "[2 4]", true, 1}, {"?1???", "..**.", "[2]", false, 1},
		// A safe cell comes first only if no other one before it is as good.
		{"?10?/?10?", "*.../....", "[0]", false, 0}, {"?10?/?10?", "..../*...", "[0 3 7]", true, 0},
		// A guess, safe cells, and a guess again.
		{"??/11/??", "*./../..", "[0]", false, 1}, {"??/11/??", ".*/../..", "[0 4 5]", true, 1},
		{"??/11/??", "../../*.", "[0 1 4]", false, 2}, {"??/11/??", "../../.*", "[0 1 4]", true, 2},
		{"??0/?2?/???", ".../*../..*", "[1 5 6 0 7]", true, 1}, {"??0/?2?/???", "*../.../.*.", "[1 5 6 0]", false, 1},
	}
	for _, c := range cases {
		checkCases(t, []boardCase{{c.v + " " + c.b, callPlay(c.v, c.b), told(c.cells, c.won, true, c.guesses, true)}})
	}
}

// TestGuessesAtSafeCells: the first one of the best cells may have a mine, though others are safe: that is no guess that one must make.
func TestGuessesAtSafeCells(t *testing.T) {
	v := "?10?/?10?"
	checkCases(t, []boardCase{
		{"MustGuess", two(impl.MustGuess(v, 1)), "false true"},
		{"SureFree", two(impl.SureFree(v, 1)), "[3 7] true"},
		{"WinsByCell that may have a mine", two(impl.WinsByCell(v, 1, 0)), "1 true"},
		{"WinsByCell that has none", two(impl.WinsByCell(v, 1, 3)), "1 true"},
		{"GuessesOf a lost play", two(impl.GuessesOf(v, "*.../....")), "0 true"},
		{"GuessesOf a play without safe cells", two(impl.GuessesOf("?100/?100", "*.../....")), "1 true"},
	})
}

// TestSingleCellPlays: it is opened, or has the mine.
func TestSingleCellPlays(t *testing.T) {
	checkCases(t, []boardCase{
		{"? without a mine", callPlayed("?", 0, 0), "1 true 1 1 true [0] true 1 true false true [.] true 0 true false true"},
		{"? with a mine", callPlayed("?", 1, 0), "1 true 1 1 true [] true 0 true false true [*] true ? true true true"},
		{"? with too many", callPlayed("?", 2, 0), playedFail},
		{"0 without a mine", callPlayed("0", 0, 0), "1 true 1 1 true [] true 0 false false true [.] true 0 true true true"},
		{"0 with a mine", callPlayed("0", 1, 0), playedFail},
		{"1 without a mine", callPlayed("1", 0, 0), playedFail},
		{"? and .", callPlay("?", "."), "[0] true true 0 true"},
		{"? and *", callPlay("?", "*"), "[] true true 0 true"},
		{"0 and .", callPlay("0", "."), "[] true true 0 true"},
		{"0 and *", callPlay("0", "*"), playFail},
		{"1 and .", callPlay("1", "."), playFail},
		{"first without a mine", callFirst(1, 1, 0), "[0] true 1 1 true"},
		{"first with a mine", callFirst(1, 1, 1), "[] true 1 1 true"},
		{"first with too many", callFirst(1, 1, 2), firstFail},
	})
}

// TestWonViews: nothing is opened any more, whether there are mines or not.
func TestWonViews(t *testing.T) {
	for v, b := range map[string]string{
		"00": "..", "0/0": "./.", full("0"): full("."), "?1": "*.", "1?1": ".*.", "??": "**", "?/?": "*/*", "?2?": "*.*", "???": "***",
		"?11?": "*..*", "?10/121/01?": "*../.../..*", "?3?/?31": "*.*/*..",
	} {
		mines := strings.Count(v, "?")
		checkCases(t, []boardCase{
			{"WinsFrom " + v, two(impl.WinsFrom(v, mines)), "1 true"},
			{"WinChance " + v, three(impl.WinChance(v, mines)), "1 1 true"},
			{"BestCells " + v, two(impl.BestCells(v, mines)), "[] true"},
			{"MustGuess " + v, two(impl.MustGuess(v, mines)), "false true"},
			{"WonBoards " + v, two(impl.WonBoards(v, mines)), "[" + b + "] true"},
			{"OpenSafe " + v, two(impl.OpenSafe(v, mines)), v + " true"},
			{"IsWon " + v, two(impl.IsWon(v, mines)), "true true"},
			{"play on " + v, callPlay(v, b), "[] true true 0 true"},
		})
		for cell, sign := range strings.ReplaceAll(v, "/", "") {
			checkCases(t, []boardCase{{fmt.Sprint("WinsByCell ", v, " ", cell), two(impl.WinsByCell(v, mines, cell)), told(0, sign == '?')}})
		}
	}
}

// TestFirstOpenings: of one row, of one column, and of both.
func TestFirstOpenings(t *testing.T) {
	all := "[0 1 2 3 4 5 6 7]"
	cases := []struct {
		width  int
		height int
		chance [4]string
		best   [4]string
	}{
		{1, 1, [4]string{"1 1", "1 1"}, [4]string{"[0]", "[]"}},
		{2, 1, [4]string{"1 1", "1 2", "1 1"}, [4]string{"[0 1]", "[0 1]", "[]"}},
		{3, 1, [4]string{"1 1", "2 3", "1 3", "1 1"}, [4]string{"[0 1 2]", "[0 2]", "[0 1 2]", "[]"}},
		{1, 3, [4]string{"1 1", "2 3", "1 3", "1 1"}, [4]string{"[0 1 2]", "[0 2]", "[0 1 2]", "[]"}},
		{4, 1, [4]string{"1 1", "3 4", "1 3", "1 4"}, [4]string{"[0 1 2 3]", "[0 1 2 3]", "[0 1 2 3]", "[0 1 2 3]"}},
		{6, 1, [4]string{"1 1", "5 6", "8 15", "1 4"}, [4]string{"[0 1 2 3 4 5]", "[0 1 2 3 4 5]", "[2 3]", "[1 2 3 4]"}},
		{2, 2, [4]string{"1 1", "1 4", "1 6", "1 4"}, [4]string{"[0 1 2 3]", "[0 1 2 3]", "[0 1 2 3]", "[0 1 2 3]"}},
		{3, 2, [4]string{"1 1", "1 2", "1 3", "1 5"}, [4]string{"[0 1 2 3 4 5]", "[0 1 2 3 4 5]", "[0 2 3 5]", "[0 2 3 5]"}},
		{2, 3, [4]string{"1 1", "1 2", "1 3", "1 5"}, [4]string{"[0 1 2 3 4 5]", "[0 1 2 3 4 5]", "[0 1 4 5]", "[0 1 4 5]"}},
		{8, 1, [4]string{"1 1", "7 8", "17 28", "9 28"}, [4]string{all, all, "[2 3 4 5]", "[3 4]"}},
		{1, 8, [4]string{"1 1", "7 8", "17 28", "9 28"}, [4]string{all, all, "[2 3 4 5]", "[3 4]"}},
		{4, 2, [4]string{"1 1", "1 2", "9 28", "3 14"}, [4]string{all, all, all, "[1 2 5 6]"}},
		{2, 4, [4]string{"1 1", "1 2", "9 28", "3 14"}, [4]string{all, all, all, "[2 3 4 5]"}},
	}
	for _, c := range cases {
		for mines, chance := range c.chance {
			want := firstFail
			if chance != "" {
				want = told(c.best[mines], true, chance, true)
			}
			checkCases(t, []boardCase{{fmt.Sprint("first ", c.width, " ", c.height, " ", mines), callFirst(c.width, c.height, mines), want}})
		}
	}
}

// TestSizesThatAreNotPlayed: they are 0, below 0, or have too many cells, also if their product is none of these.
func TestSizesThatAreNotPlayed(t *testing.T) {
	sizes := append(oddInts(), 2, 3, 4, 5)
	for _, width := range sizes {
		for _, height := range sizes {
			if width >= 1 && width <= 8 && height >= 1 && height <= 8 && width*height <= 8 {
				continue
			}
			for mines := range 4 {
				checkCases(t, []boardCase{{fmt.Sprint("first ", width, " ", height, " ", mines), callFirst(width, height, mines), firstFail}})
			}
		}
	}
}

// TestMinesThatAreNotPlayed: they are below 0, or above MaxPlayedMines, also where boards with so many fit.
func TestMinesThatAreNotPlayed(t *testing.T) {
	for _, mines := range append(oddInts(), 2, 3, 4, 5) {
		if mines >= 0 && mines <= 3 {
			continue
		}
		for _, v := range []string{"?", "??", "????", "?????", "????????", "0", "?1?", "???/?4?/???", "???/?8?/???"} {
			checkCases(t, []boardCase{{fmt.Sprint(v, " ", mines), callPlayed(v, mines, 0), playedFail}})
		}
		for _, width := range []int{1, 4, 8} {
			checkCases(t, []boardCase{{fmt.Sprint("first ", width, " ", mines), callFirst(width, 1, mines), firstFail}})
		}
	}
}

// TestViewsThatNoBoardFitsAreNotPlayed: their numbers cannot be, or not with so many mines.
func TestViewsThatNoBoardFitsAreNotPlayed(t *testing.T) {
	for v, mines := range map[string][]int{
		"1": {0, 1, 2, 3}, "2?": {0, 1, 2, 3}, "1?0": {0, 1, 2, 3}, "???1/????": {0}, "???/121": {0, 1, 3}, "?2?/242/?2?": {0, 1, 2, 3}, "???/?8?/???": {0, 1, 2, 3},
		"?1?": {0, 2, 3}, "?11?": {0, 1, 3}, "0": {1, 2, 3}, "00/00": {1, 2, 3}, "?": {2, 3}, "??": {3}, "0?": {1, 2}, "?10/121/01?": {0, 1, 3}, full("0"): {1}, full("0")[:70] + "?": {1},
	} {
		for _, number := range mines {
			checkCases(t, []boardCase{{fmt.Sprint(v, " ", number), callPlayed(v, number, max(0, strings.Index(v, "?"))), playedFail}})
		}
	}
}

// TestHiddenCellsThatAreNotPlayed: MaxPlayed are, and one more is not, though it is a view.
func TestHiddenCellsThatAreNotPlayed(t *testing.T) {
	for _, v := range []string{"???/???/???", "?????/????0", "????????/?0000000", "???????/???????", "?????/?????/?????", "?00?/0??0/0??0/?00?/?000", full("?")} {
		b := strings.NewReplacer("?", ".", "0", ".").Replace(v)
		for mines := range 4 {
			checkCases(t, []boardCase{{fmt.Sprint(v, " ", mines), callPlayed(v, mines, 0), playedFail}})
		}
		checkCases(t, []boardCase{{"play on " + v, callPlay(v, b), playFail}})
	}
	checkCases(t, []boardCase{
		{"8 cells of 9", two(impl.WinsFrom("???/???/??1", 1)), "3 true"},
		{"8 cells around one", two(impl.WinsFrom("???/?1?/???", 1)), "7 true"},
		{"8 cells in a row of 16", two(impl.BestCells("????????/00000000", 0)), "[0 1 2 3 4 5 6 7] true"},
		{"8 cells far from each other", two(impl.OpenSafe("?00?/0000/?00?/0000/?00?/0000/?00?", 0)), "0000/0000/0000/0000/0000/0000/0000 true"},
		{"play on them", callPlay("?00?/0000/?00?/0000/?00?/0000/?00?", "..../..../..../..../..../..../...."), "[0 3 8 11 16 19 24 27] true true 0 true"},
	})
}

// TestCellsThatAreNotPlayed: they are open, below 0, or not there.
func TestCellsThatAreNotPlayed(t *testing.T) {
	for _, v := range []string{"?1?", "???", "?1??0", "?10/121/01?", "??/??", "0?", full("0")[:69] + "??"} {
		for mines := range 4 {
			for cell, sign := range strings.ReplaceAll(v, "/", "") {
				if sign != '?' {
					checkCases(t, []boardCase{{fmt.Sprint("WinsByCell ", v, " ", mines, " ", cell), two(impl.WinsByCell(v, mines, cell)), "0 false"}})
				}
			}
			for _, cell := range append(oddInts(), len(v)) {
				if cell < 0 || cell >= modelOf(v).cells() {
					checkCases(t, []boardCase{{fmt.Sprint("WinsByCell ", v, " ", mines, " ", cell), two(impl.WinsByCell(v, mines, cell)), "0 false"}})
				}
			}
		}
	}
}

// TestBoardsThatAreNotPlayed: they do not fit, have another size or too many mines, or are none.
func TestBoardsThatAreNotPlayed(t *testing.T) {
	cases := [][2]string{
		{"?1?", "..."}, {"?1?", "*.*"}, {"?1?", ".*."}, {"?1?", "**."}, {"?1?", "***"}, {"0", "*"}, {"1", "."}, {"1?0", ".*."}, {"00", "*."},
		{"?1?", "*/./."}, {"?1?", "*."}, {"?1?", "*..."}, {"?1?", "*../..."}, {"??/??", "*..."}, {"????", "*./.."}, {"?", ".."}, {"??", "."}, {"??", "./."},
		{"????", "****"}, {"????????", "****...."}, {"????????", "********"}, {"???/?4?/???", "*.*/.../*.*"}, {"???/?8?/???", "***/*.*/***"}, {"?2?/242/?2?", "*.*/.../*.*"},
		{"???", full("*")}, {full("0"), full("*")}, {full("0"), full(".")[:70] + "*"},
	}
	for _, c := range cases {
		checkCases(t, []boardCase{{c[0] + " " + c[1], callPlay(c[0], c[1]), playFail}})
	}
	for _, v := range []string{"?", "???", "?1?", "???/???", "0", "???/???/???"} {
		for _, b := range append(noBoards(), v) {
			checkCases(t, []boardCase{{v + " and " + b, callPlay(v, b), playFail}})
		}
	}
}

// TestNoViewsArePlayed: texts that are none fail, with all numbers of mines.
func TestNoViewsArePlayed(t *testing.T) {
	for _, v := range append(noViews(), noBoards()...) {
		// These two are no boards alone.
		if v == "?" || v == "0" {
			continue
		}
		for mines := -1; mines <= 4; mines++ {
			checkCases(t, []boardCase{{fmt.Sprintf("%.100q %d", v, mines), callPlayed(v, mines, 0), playedFail}})
		}
		for _, b := range []string{".", "*", "*../.../..*", "...", v} {
			checkCases(t, []boardCase{{fmt.Sprintf("play on %.100q", v), callPlay(v, b), playFail}})
		}
	}
}

// TestManyBoardsThatFit: with eight hidden cells and three mines there are 56 boards, all told in order.
func TestManyBoardsThatFit(t *testing.T) {
	checkCases(t, []boardCase{
		{"CountFitting", two(impl.CountFitting("????????", 3)), "56 true"},
		{"WinsFrom", two(impl.WinsFrom("????????", 3)), "18 true"},
		{"WinsByCell", two(impl.WinsByCell("????????", 3, 3)), "18 true"},
		{"WinsByCell of others", two(impl.WinsByCell("????????", 3, 0)), "16 true"},
		{"WonBoards", two(impl.WonBoards("????/????", 3)), "[*.../**.. *.../*.*. *.../*..* ..*./.**. ..*./..** ...*/*..* ...*/.*.* ...*/..** ..../***. ..../**.* ..../*.** ..../.***] true"},
		{"WonBoards but for the first one", two(impl.WonBoards("????????", 1)), "[.*...... ..*..... ...*.... ....*... .....*.. ......*. .......*] true"},
		{"BestCells of none that is safe", two(impl.BestCells("????/????", 3)), "[1 2 5 6] true"},
		{"MustGuess", two(impl.MustGuess("????/????", 3)), "true true"},
		{"IsWon", two(impl.IsWon("????/????", 3)), "false true"},
	})
}

// TestSafeCells: they are opened just if each of them has the same number in all boards that fit, however many these are.
func TestSafeCells(t *testing.T) {
	cases := []struct {
		v     string
		mines int
		want  string
	}{
		{"??", 0, "00"}, {"?1", 1, "?1"}, {"1??0", 1, "1?10"}, {"?10?/?10?", 1, "?100/?100"}, {"??0/?0?", 0, "000/000"},
		{"?1??0", 1, ""}, {"?1???", 1, ""}, {"??0/?2?/???", 2, ""}, {"?1????0", 1, ""}, {"???/?1?", 1, "???/?1?"}, {"????????", 3, "????????"}, {"????????", 0, "00000000"},
		// The one with the same number comes first or last.
		{"0??1?", 1, ""}, {"?0??1?", 1, ""}, {"?1??0?", 1, ""},
		{"?????/11111/00000", 2, "??1??/11111/00000"},
	}
	for _, c := range cases {
		checkCases(t, []boardCase{{fmt.Sprint("OpenSafe ", c.v, " ", c.mines), two(impl.OpenSafe(c.v, c.mines)), told(c.want, c.want != "")}})
	}
}
