package tests

import (
	"fmt"
	"slices"
	"strings"
	"testing"

	"loop.example/g01294/impl"
)

const consoleExample = "open 4\nfits\nopen 2\nfree\nopen 0\npicture\nboard *..\nopen 1\nchance\nbest\nplay\nput 0\ntake 0\nany\nboard x\nfly\n"

func TestConsoleExample(t *testing.T) {
	checkCases(t, []boardCase{
		{"RunScript", two(impl.RunScript(consoleExample)), "[???/?2?/??? 28 ??0/?2?/??? 1,5 no *10/121/01* ??? ?1? 1/2 0,2 0! no ??? 8 what what] true"},
		{"DeskAfter", two(impl.DeskAfter(consoleExample)), "{... ???} true"},
		{"FailedLines", two(impl.FailedLines(consoleExample)), "[5 12 15 16] true"},
		{"FirstDesk", told(impl.FirstDesk()), "{*../.../..* ???/???/???}"},
		{"IsDesk FirstDesk", told(impl.IsDesk(impl.FirstDesk())), "true"},
		{"MaxScript and MaxLines", told(impl.MaxScript, impl.MaxLines), "3000 50"},
	})
}

func deskOf(board string, view string) impl.Desk { return impl.Desk{Board: board, View: view} }

const lineFail = "{ }  false"

// checkLine: a line has a reply, and a desk behind it.
func checkLine(t *testing.T, d impl.Desk, line string, behind impl.Desk, reply string) {
	t.Helper()
	checkCases(t, []boardCase{{fmt.Sprintf("%v %q", d, line), three(impl.DeskLine(d, line)), told(behind, reply, true)}})
}

// checkReplies: the lines that ask for something have some replies, one after the other, and change nothing.
func checkReplies(t *testing.T, d impl.Desk, replies string) {
	t.Helper()
	want := append([]string{d.View, d.Board}, strings.Fields(replies)...)
	if len(want) != len(askWords()) {
		t.Fatalf("%v: %d replies", d, len(want))
	}
	for i, word := range askWords() {
		checkLine(t, d, word, d, want[i])
	}
}

// checkAllReplies does so for cases of a Board, a View and the replies.
func checkAllReplies(t *testing.T, cases [][3]string) {
	t.Helper()
	for _, c := range cases {
		checkReplies(t, deskOf(c[0], c[1]), c[2])
	}
}

// TestOrdinaryReplies: picture, sum, mines, zeros, fits, any, sure, free, safest, chance, best and play.
func TestOrdinaryReplies(t *testing.T) {
	checkAllReplies(t, [][3]string{
		{"*../.../..*", "???/???/???", "*10/121/01* 6 0,8 2,6 36 512 - - 0,1,2,3,4,5,6,7,8 no no no"},
		{"*../.../..*", "???/?2?/???", "*10/121/01* 6 0,8 2,6 28 28 - - 0,1,2,3,5,6,7,8 17/28 0,1,2,3,5,6,7,8 0!"},
		{"*../.../..*", "??0/?2?/???", "*10/121/01* 6 0,8 2,6 10 10 - 1,5 1,5 9/10 1,5 1,5,6,3,7"},
		{"*../.../..*", "?1?/?2?/?1?", "*10/121/01* 6 0,8 2,6 4 4 - 3,5 3,5 3/4 3,5 3,0!"},
		{"*../.../..*", "?10/12?/???", "*10/121/01* 6 0,8 2,6 1 1 0,8 5,6,7 5,6,7 1/1 5,6,7 5,6,7"},
		{"*..", "?1?", "*10 1 0 2 2 2 - - 0,2 1/2 0,2 0!"},
		{"*..", "???", "*10 1 0 2 3 8 - - 0,1,2 2/3 0,2 0!"},
		{"..*", "?1?", "01* 1 2 0 2 2 - - 0,2 1/2 0,2 0"},
		{"*..*", "????", "*11* 2 0,3 - 6 16 - - 0,1,2,3 1/3 0,1,2,3 0!"},
		{".*/..", "??/??", "1*/11 3 1 - 4 16 - - 0,1,2,3 1/4 0,1,2,3 0,1!"},
		{"../*.", "??/??", "11/*1 3 2 - 4 16 - - 0,1,2,3 1/4 0,1,2,3 0,1,2!"},
		{"../.*", "??/??", "11/1* 3 3 - 4 16 - - 0,1,2,3 1/4 0,1,2,3 0,1,2"},
		{".*/**", "??/??", "3*/** 3 1,2,3 - 4 16 - - 0,1,2,3 1/4 0,1,2,3 0"},
		{".../..*", "???/???", "011/01* 3 5 0,3 6 64 - - 0,1,2,3,4,5 1/2 0,1,2,3,4,5 0,1,2,3,4"},
		{"*....", "?1??0", "*1000 1 0 2,3,4 2 2 - 3 3 1/1 3 3,2"},
		{"*..*.", "?1??1", "*11*1 3 0,3 - 2 2 3 - 0,2 1/2 0,2 0!"},
		{"*..*.", "?1???", "*11*1 3 0,3 - 4 8 - - 0,2,3,4 1/2 2,3 2,4"},
		{"..**.", "?1???", "01**1 2 2,3 0 4 8 - - 0,2,3,4 1/2 2,3 2!"},
		{"...*/....", "??1?/??11", "001*/0011 3 3 0,1,4,5 1 4 3 0,1,4,5 0,1,4,5 1/1 0,1,4,5 0,1,4,5"},
		{"*.../....", "?10?/?10?", "*100/1100 3 0 2,3,6,7 2 2 - 3,7 3,7 1/2 0,3,4,7 0!"},
	})
}

// TestRepliesAtTheEdges: single cells, no mines, no free cells, no hidden cells, and views that are won already.
func TestRepliesAtTheEdges(t *testing.T) {
	checkAllReplies(t, [][3]string{
		{".", "?", "0 0 - 0 1 2 - 0 0 1/1 0 0"},
		{".", "0", "0 0 - 0 1 1 - - - 1/1 - -"},
		{"*", "?", "* 0 0 - 1 2 0 - 0 1/1 - -"},
		{"...", "???", "000 0 - 0,1,2 1 8 - 0,1,2 0,1,2 1/1 0,1,2 0,1,2"},
		{"...", "0?0", "000 0 - 0,1,2 1 1 - 1 1 1/1 1 1"},
		{"...", "000", "000 0 - 0,1,2 1 1 - - - 1/1 - -"},
		{"../..", "00/00", "00/00 0 - 0,1,2,3 1 1 - - - 1/1 - -"},
		{"***", "???", "*** 0 0,1,2 - 1 8 0,1,2 - 0,1,2 1/1 - -"},
		{"**/**", "??/??", "**/** 0 0,1,2,3 - 1 16 0,1,2,3 - 0,1,2,3 no no no"},
		{"*..*", "?11?", "*11* 2 0,3 - 1 1 0,3 - 0,3 1/1 - -"},
		{"*..*.", "?11?1", "*11*1 3 0,3 - 1 1 0,3 - 0,3 1/1 - -"},
		{"*../.../..*", "?10/121/01?", "*10/121/01* 6 0,8 2,6 1 1 0,8 - 0,8 1/1 - -"},
	})
}

// TestRepliesToPlaysAtTheirLimits: eight hidden cells and nine, three mines and four.
func TestRepliesToPlaysAtTheirLimits(t *testing.T) {
	checkAllReplies(t, [][3]string{
		{"........", "????????", "00000000 0 - 0,1,2,3,4,5,6,7 1 256 - 0,1,2,3,4,5,6,7 0,1,2,3,4,5,6,7 1/1 0,1,2,3,4,5,6,7 0,1,2,3,4,5,6,7"},
		{".*......", "????????", "1*100000 2 1 3,4,5,6,7 8 256 - - 0,1,2,3,4,5,6,7 7/8 0,1,2,3,4,5,6,7 0,2,3,4,5,6,7"},
		{"***.....", "????????", "***10000 1 0,1,2 4,5,6,7 56 256 - - 0,1,2,3,4,5,6,7 9/28 3,4 3,5,4,6,7"},
		{"****....", "????????", "****1000 1 0,1,2,3 5,6,7 70 256 - - 0,1,2,3,4,5,6,7 no no no"},
		{".../.../...", "???/???/???", "000/000/000 0 - 0,1,2,3,4,5,6,7,8 1 512 - 0,1,2,3,4,5,6,7,8 0,1,2,3,4,5,6,7,8 no no no"},
		{".../.../...", "???/???/??0", "000/000/000 0 - 0,1,2,3,4,5,6,7,8 1 32 - 0,1,2,3,4,5,6,7 0,1,2,3,4,5,6,7 1/1 0,1,2,3,4,5,6,7 0,1,2,3,4,5,6,7"},
		{"**../...*/*..*", "????/????/????", "**21/333*/*12* 15 0,1,7,8,11 - 792 4096 - - 0,1,2,3,4,5,6,7,8,9,10,11 no no no"},
		{"**../...*/*..*", "??21/????/????", "**21/333*/*12* 15 0,1,7,8,11 - 80 256 - - 0,1,4,5,6,7,8,9,10,11 no no no"},
		{"**../...*/*..*", "??21/333?/?12?", "**21/333*/*12* 15 0,1,7,8,11 - 1 1 0,1,7,8,11 - 0,1,7,8,11 no no no"},
	})
}

// fromTo is a list in a reply that goes from a number to another one.
func fromTo(first int, last int) string { return toldList(upTo(last + 1)[first:]) }

// rowsOf8 are some rows of an 8 by 8 board, the others having all a sign.
func rowsOf8(rows string, sign string) string { return rows + full(sign)[len(rows):] }

// hardDesks are desks of 8 by 8 cells: as many hidden cells as there may be, all with mines; fewer mines; a guess among eight; no mines; no hidden cells; and a single mine at the end.
func hardDesks() []impl.Desk {
	return []impl.Desk{
		deskOf(rowsOf8("********/******..", "."), rowsOf8("????????/??????42/23333210", "0")),
		deskOf(rowsOf8(".*...*../......*.", "."), rowsOf8("????????/?????2?1/00000111", "0")),
		deskOf(rowsOf8("*..*..*.", "."), rowsOf8("????????/11111111", "0")),
		deskOf(full("."), full("0")[:70]+"?"),
		deskOf(full("."), full("0")),
		deskOf(full(".")[:70]+"*", full("0")[:54]+"00000011/0000001?"),
	}
}

func TestRepliesOnTheHardestDesks(t *testing.T) {
	desks := hardDesks()
	for i, replies := range []string{
		rowsOf8("********/******42/23333210", "0") + " 23 " + fromTo(0, 13) + " " + fromTo(23, 63) + " 1 32 " + fromTo(0, 13) + " - " + fromTo(0, 13) + " no no no",
		rowsOf8("1*101*21/111012*1/00000111", "0") + " 16 1,5,14 3,11," + fromTo(16, 20) + "," + fromTo(24, 63) + " 8 32 14 6,7,8,9,10,11,12 6,7,8,9,10,11,12 no no no",
		rowsOf8("*11*11*1/11111111", "0") + " 13 0,3,6 " + fromTo(16, 63) + " 2 2 - 2,5 2,5 1/2 0,1,2,3,4,5,6,7 0!",
		full("0") + " 0 - " + fromTo(0, 63) + " 1 1 - 63 63 1/1 63 63",
		full("0") + " 0 - " + fromTo(0, 63) + " 1 1 - - - 1/1 - -",
		full("0")[:54] + "00000011/0000001* 3 63 " + fromTo(0, 53) + "," + fromTo(56, 61) + " 1 1 63 - 63 1/1 - -",
	} {
		checkReplies(t, desks[i], replies)
	}
}

// TestOrdinaryEffects: what a line changes. If it changes nothing, its reply stands instead of the Board and the View.
func TestOrdinaryEffects(t *testing.T) {
	all, some, six := deskOf("*../.../..*", "???/???/???"), deskOf("*../.../..*", "??0/?2?/???"), deskOf("**./...", "??1/2??")
	checkEffects(t, []effectCase{
		{all, "open 4", "*../.../..* ???/?2?/???"}, {all, "open 2", "*../.../..* ??0/???/???"}, {all, "open 1", "*../.../..* ?1?/???/???"},
		{all, "open 7", "*../.../..* ???/???/?1?"}, {all, "open 0", "no"}, {all, "open 8", "no"}, {all, "open 9", "no"}, {all, "open 999999", "no"},
		{all, "hide 4", "no"}, {all, "hide 0", "no"}, {all, "hide 9", "no"}, {all, "hide 999999", "no"},
		{all, "put 4", "*../.*./..* ???/???/???"}, {all, "put 0", "no"}, {all, "put 9", "no"}, {all, "put 999999", "no"},
		{all, "take 8", "*../.../... ???/???/???"}, {all, "take 4", "no"}, {all, "take 9", "no"}, {all, "take 999999", "no"},
		{all, "turn", "..*/.../*.. ???/???/???"}, {all, "mirror", "..*/.../*.. ???/???/???"},
		{all, "board *..", "*.. ???"}, {all, "board *../.../..*", "*../.../..* ???/???/???"}, {all, "fresh 2 3", "../../.. ??/??/??"}, {all, "fresh 3 3", ".../.../... ???/???/???"},
		{some, "open 1", "*../.../..* ?10/?2?/???"}, {some, "open 2", "no"}, {some, "open 4", "no"}, {some, "open 0", "no"},
		{some, "hide 2", "*../.../..* ???/?2?/???"}, {some, "hide 4", "*../.../..* ??0/???/???"}, {some, "hide 0", "no"}, {some, "hide 1", "no"},
		{some, "put 1", "**./.../..* ???/???/???"}, {some, "put 4", "*../.*./..* ???/???/???"}, {some, "put 8", "no"},
		{some, "take 0", ".../.../..* ???/???/???"}, {some, "take 2", "no"},
		{some, "turn", "..*/.../*.. ???/???/???"}, {some, "mirror", "..*/.../*.. ???/???/???"},
		{some, "board *../.../..*", "*../.../..* ???/???/???"}, {some, "board ../.*", "../.* ??/??"}, {some, "fresh 4 1", ".... ????"},
		{six, "turn", ".*/.*/.. ??/??/??"}, {six, "mirror", ".**/... ???/???"}, {six, "put 5", "**./..* ???/???"}, {six, "take 1", "*../... ???/???"},
		{six, "hide 2", "**./... ???/2??"}, {six, "open 4", "**./... ??1/22?"}, {six, "open 6", "no"}, {six, "hide 1", "no"},
	})
}

type effectCase struct {
	desk impl.Desk
	line string
	want string
}

func checkEffects(t *testing.T, cases []effectCase) {
	t.Helper()
	for _, c := range cases {
		board, view, isChange := strings.Cut(c.want, " ")
		if isChange {
			checkLine(t, c.desk, c.line, deskOf(board, view), view)
		} else {
			checkLine(t, c.desk, c.line, c.desk, c.want)
		}
	}
}

func TestEffectsAtTheEdges(t *testing.T) {
	hidden, open, mine := deskOf(".", "?"), deskOf(".", "0"), deskOf("*", "?")
	free, full := deskOf("...", "000"), deskOf("***", "???")
	checkEffects(t, []effectCase{
		{hidden, "open 0", ". 0"}, {hidden, "open 1", "no"}, {hidden, "hide 0", "no"}, {hidden, "put 0", "* ?"}, {hidden, "take 0", "no"}, {hidden, "turn", ". ?"}, {hidden, "mirror", ". ?"},
		{open, "open 0", "no"}, {open, "hide 0", ". ?"}, {open, "hide 1", "no"}, {open, "put 0", "* ?"}, {open, "take 0", "no"}, {open, "turn", ". ?"}, {open, "mirror", ". ?"},
		{mine, "open 0", "no"}, {mine, "hide 0", "no"}, {mine, "put 0", "no"}, {mine, "take 0", ". ?"}, {mine, "turn", "* ?"}, {mine, "mirror", "* ?"},
		{free, "open 1", "no"}, {free, "hide 1", "... 0?0"}, {free, "put 2", "..* ???"}, {free, "take 2", "no"}, {free, "turn", "././. ?/?/?"},
		{full, "open 1", "no"}, {full, "hide 1", "no"}, {full, "put 1", "no"}, {full, "take 1", "*.* ???"}, {full, "turn", "*/*/* ?/?/?"},
		{deskOf("*.......", "?1000000"), "turn", "*/././././././. ?/?/?/?/?/?/?/?"}, {deskOf("*.......", "?1000000"), "mirror", ".......* ????????"},
		{deskOf("*/.", "?/1"), "turn", ".* ??"}, {deskOf("*/.", "?/1"), "mirror", "*/. ?/?"},
	})
}

// TestNewBoardsAtTheirLimits: as many hidden cells as there may be, and more, and sides that are none.
func TestNewBoardsAtTheirLimits(t *testing.T) {
	for _, d := range append(hardDesks(), impl.FirstDesk(), deskOf(".", "0")) {
		checkEffects(t, []effectCase{
			{d, "fresh 1 1", ". ?"}, {d, "fresh 8 1", "........ ????????"}, {d, "fresh 1 8", "./././././././. ?/?/?/?/?/?/?/?"},
			{d, "fresh 7 2", "......./....... ???????/???????"}, {d, "fresh 2 7", "../../../../../../.. ??/??/??/??/??/??/??"}, {d, "fresh 3 4", ".../.../.../... ???/???/???/???"},
			{d, "fresh 3 5", "no"}, {d, "fresh 5 3", "no"}, {d, "fresh 8 2", "no"}, {d, "fresh 2 8", "no"}, {d, "fresh 8 8", "no"},
			{d, "fresh 0 0", "no"}, {d, "fresh 0 1", "no"}, {d, "fresh 1 0", "no"}, {d, "fresh 9 1", "no"}, {d, "fresh 1 9", "no"}, {d, "fresh 0 14", "no"}, {d, "fresh 14 1", "no"},
			{d, "fresh 999999 999999", "no"}, {d, "fresh 999999 1", "no"}, {d, "fresh 1 999999", "no"}, {d, "fresh 0 999999", "no"}, {d, "fresh 999999 0", "no"},
			{d, "board *", "* ?"}, {d, "board .", ". ?"}, {d, "board ********", "******** ????????"}, {d, "board */*/*/*/*/*/*/*", "*/*/*/*/*/*/*/* ?/?/?/?/?/?/?/?"},
			{d, "board .*...../*......", ".*...../*...... ???????/???????"}, {d, "board .*/../../../../../*.", ".*/../../../../../*. ??/??/??/??/??/??/??"},
			{d, "board ...../...../.....", "no"}, {d, "board ********/********", "no"}, {d, "board ../../../../../../../..", "no"}, {d, "board " + full("."), "no"}, {d, "board " + full("*"), "no"},
		})
	}
}

// TestEffectsOnTheHardestDesks: no cell can be hidden if fourteen are, and no other board stands there with all its cells hidden.
func TestEffectsOnTheHardestDesks(t *testing.T) {
	for _, d := range hardDesks() {
		checkEffects(t, []effectCase{{d, "turn", "no"}, {d, "mirror", "no"}, {d, "open 64", "no"}, {d, "hide 64", "no"}, {d, "put 64", "no"}, {d, "take 64", "no"}})
		for cell := range 64 {
			checkEffects(t, []effectCase{{d, fmt.Sprint("put ", cell), "no"}, {d, fmt.Sprint("take ", cell), "no"}})
		}
	}
	mines, some, free := hardDesks()[0], hardDesks()[1], hardDesks()[4]
	for cell := range 64 {
		line := fmt.Sprint("hide ", cell)
		at := cell + cell/8
		checkEffects(t, []effectCase{{mines, line, "no"}, {some, line, "no"}, {free, line, free.Board + " " + free.View[:at] + "?" + free.View[at+1:]}})
	}
	checkEffects(t, []effectCase{
		{mines, "open 0", "no"}, {mines, "open 14", "no"},
		{some, "open 0", some.Board + " 1" + some.View[1:]}, {some, "open 7", some.Board + " ???????1" + some.View[8:]}, {some, "open 12", some.Board + " ????????/????12?1" + some.View[17:]}, {some, "open 13", "no"}, {some, "open 14", "no"},
		{deskOf(some.Board, "1"+some.View[1:]), "hide 63", some.Board + " 1" + some.View[1:70] + "?"},
	})
	// Boards of fifteen and sixteen cells may be on a desk as well.
	wide, high := deskOf("...../...../....*", "?????/?????/???1?"), deskOf("../../../../../../../..", "??/??/??/??/??/??/??/00")
	checkReplies(t, wide, "00000/00011/0001* 3 14 "+fromTo(0, 7)+",10,11,12 5 2560 - 0,1,2,3,4,5,6,10,11 0,1,2,3,4,5,6,10,11 no no no")
	checkEffects(t, []effectCase{
		{wide, "turn", "no"}, {wide, "mirror", "no"}, {wide, "put 0", "no"}, {wide, "take 14", "no"}, {wide, "hide 13", "no"}, {wide, "open 0", wide.Board + " 0????/?????/???1?"},
		{high, "turn", "no"}, {high, "mirror", "no"}, {high, "put 0", "no"}, {high, "take 0", "no"}, {high, "hide 15", "no"}, {high, "open 13", high.Board + " ??/??/??/??/??/??/?0/00"},
	})
}

// someDesks are ordinary desks and hard ones.
func someDesks() []impl.Desk {
	return append(hardDesks(), impl.FirstDesk(), deskOf("*../.../..*", "??0/?2?/???"), deskOf("*..", "?1?"), deskOf(".", "?"), deskOf(".", "0"), deskOf("*", "?"), deskOf("*..*", "?11?"))
}

// TestCountsOfWords: a line has as many words as its first one wants, also if some are empty.
func TestCountsOfWords(t *testing.T) {
	wanted := map[string][]string{"fresh": {"1", "2"}, "board": {"*.."}, "open": {"0"}, "hide": {"0"}, "put": {"0"}, "take": {"0"}, "turn": {}, "mirror": {}}
	for _, word := range askWords() {
		wanted[word] = []string{}
	}
	if len(wanted) != 22 {
		t.Fatalf("%d lines", len(wanted))
	}
	for _, d := range someDesks() {
		for name, rest := range wanted {
			words := append([]string{name}, rest...)
			good := strings.Join(words, " ")
			if _, reply, ok := impl.DeskLine(d, good); !ok || reply == "what" {
				t.Errorf("%v %q: %q %v", d, good, reply, ok)
			}
			for _, more := range []string{"", "0", "1", "*..", "show", name} {
				for at := range len(words) + 1 {
					checkLine(t, d, strings.Join(slices.Insert(slices.Clone(words), at, more), " "), d, "what")
				}
			}
			for fewer := range len(words) {
				checkLine(t, d, strings.Join(words[:fewer], " "), d, "what")
				checkLine(t, d, strings.Join(words[fewer+1:], " "), d, "what")
			}
			checkLine(t, d, good+strings.Repeat(" "+name, 2), d, "what")
			checkLine(t, d, good+strings.Repeat(" 0", 3), d, "what")
		}
	}
}

// TestOtherWords: words that there are not, or that are written in another way.
func TestOtherWords(t *testing.T) {
	lines := []string{
		"", " ", "  ", "\t", "\r", "\x00", "-", "?", "/", "fly", "no", "what", "x", "0", "1", "*..", "*../.../..*", "???", "desk", "exit", "help",
		"board x", "open\t4", "open,4", "open4", "open/4", "open=4", "4 open", "open 4\r", "open 4\t", "open\xa04", "open\u00a04", "show\r", "show\x00", "\xefshow", "show\x80", "\xff\xfe", "schön", "sĥow",
		"fresh 2x3", "fresh 2,3", "fresh 2/3", "fresh 2\t3", "board *.. *..", "board *..\t", "board *..\r", "board ???", "board 0", "board -", "boards *..", "turn 1", "mirror 0", "fits 2", "any -1", "play *..",
	}
	for _, name := range append(askWords(), "board *..", "fresh 2 3", "open 1", "hide 1", "put 1", "take 0", "turn", "mirror") {
		word, rest, _ := strings.Cut(name, " ")
		if rest != "" {
			rest = " " + rest
		}
		for _, other := range []string{strings.ToUpper(word), strings.ToUpper(word[:1]) + word[1:], word[1:], word[:len(word)-1], word + "s", word + "s ", " " + word, word + word, word + ".", word + "\x00", "the " + word, backwards(word)} {
			lines = append(lines, other+rest)
		}
	}
	for _, d := range someDesks() {
		for _, line := range lines {
			checkLine(t, d, line, d, "what")
		}
	}
}

// wordsThatAreNoNumbers are words in the place of numbers.
func wordsThatAreNoNumbers() []string {
	words := []string{
		"", "00", "01", "04", "007", "000000", "0000004", "+0", "+1", "+4", "-0", "-1", "-4", "1.", "1.0", ".1", "1,", ",1", "1,2", "0,4", "4,", "1_0", "0_4", "0x4", "0X4", "0b1", "0o4", "1e0", "4e0", "1/1", "4/1",
		"\t4", "4\t", "4\r", "4\x00", "\x004", "4!", "４", "٤", "४", "four", "x", "4x", "x4", "?", "*", ".", "-", "--4", "4-", "\xff", "4\xff", "\xb4", "NaN", "Inf", "open",
		"1000000", "1000004", "0999999", "9999999", "10000000", "4294967296", "4294967300", "9223372036854775807", "9223372036854775808", "18446744073709551616", "18446744073709551620", "-18446744073709551612",
	}
	return append(words, strings.Repeat("0", 100)+"4", strings.Repeat("9", 100), "1"+strings.Repeat("0", 1000))
}

func TestNumbersInLines(t *testing.T) {
	d := deskOf("*../.../..*", "?1?/???/???")
	checkEffects(t, []effectCase{
		{d, "open 4", "*../.../..* ?1?/?2?/???"}, {d, "hide 1", "*../.../..* ???/???/???"}, {d, "put 4", "*../.*./..* ???/???/???"}, {d, "take 0", ".../.../..* ???/???/???"},
		{d, "put 0", "no"}, {d, "open 10", "no"}, {d, "open 99999", "no"}, {d, "open 100000", "no"}, {d, "open 999999", "no"}, {d, "hide 999999", "no"}, {d, "put 999999", "no"}, {d, "take 999999", "no"},
	})
	for _, d := range someDesks() {
		for _, word := range wordsThatAreNoNumbers() {
			for _, line := range []string{"open W", "hide W", "put W", "take W", "fresh W 1", "fresh 1 W", "fresh W W", "fresh 0 W", "fresh W 0", "fresh 999999 W", "fresh W 9"} {
				checkLine(t, d, strings.ReplaceAll(line, "W", word), d, "what")
			}
		}
	}
}

// TestBoardsInLines: a word that should be a board and is none, also if it is much too long for one.
func TestBoardsInLines(t *testing.T) {
	for _, d := range []impl.Desk{impl.FirstDesk(), deskOf(".", "0"), hardDesks()[0]} {
		for _, s := range noBoards() {
			if strings.Contains(s, "\n") || len(s) > 2000 {
				continue
			}
			checkLine(t, d, "board "+s, d, "what")
		}
		for _, length := range []int{72, 73, 1000, 2994} {
			checkLine(t, d, "board "+strings.Repeat(".", length), d, "what")
		}
	}
}

// TestLengthsOfLines: a line has at most MaxScript bytes, and no newline.
func TestLengthsOfLines(t *testing.T) {
	for _, d := range someDesks() {
		for _, length := range []int{2998, 2999, 3000} {
			for _, sign := range []string{"x", " ", "\x00", "\xff"} {
				checkLine(t, d, strings.Repeat(sign, length), d, "what")
			}
			checkLine(t, d, "open "+strings.Repeat("0", length-5), d, "what")
			checkLine(t, d, "show"+strings.Repeat(" ", length-4), d, "what")
		}
		for _, line := range []string{
			strings.Repeat("x", 3001), strings.Repeat(" ", 3001), "show" + strings.Repeat(" ", 2997), "open " + strings.Repeat("0", 2996), strings.Repeat("show", 1<<18),
			"\n", "show\n", "\nshow", "show\nshow", "show \n", "open 4\n", "open\n4", "fly\n", strings.Repeat("x", 2999) + "\n", strings.Repeat("\n", 3000), "board *../\n.../..*",
		} {
			checkCases(t, []boardCase{{fmt.Sprintf("%v %q", d, line), three(impl.DeskLine(d, line)), lineFail}})
		}
	}
}

// noDesks are desks that are none.
func noDesks() []impl.Desk {
	desks := []impl.Desk{
		{}, deskOf("*..", ""), deskOf("", "???"), deskOf("", "?1?"), deskOf("???", "*.."), deskOf("???", "???"), deskOf("*..", "*.."), deskOf("?1?", "?1?"),
		// The View is of another size.
		deskOf("*..", "??"), deskOf("*..", "????"), deskOf("*..", "?/?/?"), deskOf("*../...", "??/??/??"), deskOf("...", "00"), deskOf(".", "00"), deskOf("*../.../..*", "???/???"), deskOf(full("."), full("0")[:62]),
		// It tells other numbers than the Board has, or has a mine open.
		deskOf("*..", "?2?"), deskOf("*..", "?0?"), deskOf("*..", "??1"), deskOf("*..", "0??"), deskOf("*..", "1??"), deskOf("*..", "???"[:2]+"8"), deskOf("...", "?1?"), deskOf("*", "0"), deskOf("*", "1"), deskOf("***", "?2?"), deskOf("***/*.*/***", "???/?7?/???"),
		deskOf("*../.../..*", "*10/121/01*"), deskOf("*../.../..*", "?10/121/012"), deskOf(full("*"), full("8")), deskOf(full("."), "1"+full("0")[1:]),
		// It is no view.
		deskOf("*..", "*1?"), deskOf("*..", "?1."), deskOf("*..", "?19"), deskOf("*..", "?1?\n"), deskOf("*..", "?1? "), deskOf("*..", " ?1?"), deskOf("*..", "?\xb1?"), deskOf("*..", "?１?"), deskOf("*..", "?1?/"), deskOf("*..", "-"),
		deskOf(full("."), full("?")), deskOf("...../...../.....", "?????/?????/?????"), deskOf("......../........", "????????/???????0"), deskOf(".........", "?????????"),
		// The Board is none.
		deskOf("*.", "?1?"), deskOf("*..\n", "?1?"), deskOf("*.. ", "?1?"), deskOf("*.o", "?1?"), deskOf("*.\xae", "?1?"), deskOf("*../", "?1?"), deskOf("*10", "?1?"), deskOf("-", "?"),
	}
	for i, s := range noBoards() {
		desks = append(desks, deskOf(s, "???/???/???"), deskOf(s, s))
		if i%3 == 0 {
			desks = append(desks, deskOf(s, strings.NewReplacer(".", "0", "*", "?").Replace(s)))
		}
	}
	for _, s := range noViews() {
		desks = append(desks, deskOf("*../.../..*", s))
	}
	return desks
}

func TestNoDesksFail(t *testing.T) {
	lines := append(askWords(), "board *..", "board x", "fresh 2 2", "open 0", "open 1", "hide 1", "put 0", "put 1", "take 0", "turn", "mirror", "fly", "", "open x", "show\n", strings.Repeat("x", 3001))
	for _, d := range noDesks() {
		if impl.IsDesk(d) {
			t.Errorf("IsDesk %.200q is true", fmt.Sprint(d))
		}
		for _, line := range lines {
			checkCases(t, []boardCase{{fmt.Sprintf("%.100v %.30q", d, line), three(impl.DeskLine(d, line)), lineFail}})
		}
	}
	for _, d := range someDesks() {
		if !impl.IsDesk(d) {
			t.Errorf("IsDesk %v is false", d)
		}
	}
}

// callScript calls every function of chapter 10 that takes a script, and tells what they return.
func callScript(s string) string {
	return told(two(impl.RunScript(s)), two(impl.DeskAfter(s)), two(impl.FailedLines(s)))
}

const scriptFail = "[] false { } false [] false"

const firstDeskText = "{*../.../..* ???/???/???}"

// TestScriptsAtTheirLimits: no line, one, as many as there may be, and as many bytes.
func TestScriptsAtTheirLimits(t *testing.T) {
	whats := func(count int) string { return strings.TrimSpace(strings.Repeat("what ", count)) }
	numbers := func(count int) string { return strings.ReplaceAll(fromTo(1, count), ",", " ") }
	hidden := "[" + strings.TrimSpace(strings.Repeat("???/???/??? ", 50)) + "]"
	checkCases(t, []boardCase{
		{"the empty script", callScript(""), "[] true " + firstDeskText + " true [] true"},
		{"an empty line", callScript("\n"), "[what] true " + firstDeskText + " true [1] true"},
		{"empty lines", callScript("\n\n\n"), "[what what what] true " + firstDeskText + " true [1 2 3] true"},
		{"an empty line between others", callScript("show\n\nsum\n"), "[???/???/??? what 6] true " + firstDeskText + " true [2] true"},
		{"one line", callScript("open 4\n"), "[???/?2?/???] true {*../.../..* ???/?2?/???} true [] true"},
		{"fifty lines", callScript(strings.Repeat("show\n", 50)), hidden + " true " + firstDeskText + " true [] true"},
		{"fifty empty lines", callScript(strings.Repeat("\n", 50)), "[" + whats(50) + "] true " + firstDeskText + " true [" + numbers(50) + "] true"},
		{"3000 bytes in a line", callScript(strings.Repeat("x", 2999) + "\n"), "[what] true " + firstDeskText + " true [1] true"},
		{"3000 bytes in two lines", callScript("turn\n" + strings.Repeat(" ", 2994) + "\n"), "[???/???/??? what] true {..*/.../*.. ???/???/???} true [2] true"},
		{"3000 bytes in fifty lines", callScript(strings.Repeat(strings.Repeat("\xff", 59)+"\n", 50)), "[" + whats(50) + "] true " + firstDeskText + " true [" + numbers(50) + "] true"},
		{"a line of blanks", callScript("   \n"), "[what] true " + firstDeskText + " true [1] true"},
		{"bytes above 127", callScript("\x80\xff\nsum\né\n"), "[what 6 what] true " + firstDeskText + " true [1 3] true"},
		{"carriage returns", callScript("sum\r\nsum\n\rsum\n"), "[what 6 what] true " + firstDeskText + " true [1 3] true"},
	})
}

func TestTextsThatAreNoScripts(t *testing.T) {
	texts := []string{
		"show", " ", "x", "\r", "\x00", "\xff", "show\nshow", "\nshow", "show\n ", "show\n\r", "show\n\nx", "show\r", "fly", "open 4", consoleExample + " ", consoleExample[:len(consoleExample)-1],
		strings.Repeat("show\n", 51), strings.Repeat("\n", 51), strings.Repeat("\n", 52), strings.Repeat("\n", 3000), strings.Repeat("\n", 3001), strings.Repeat("show\n", 50) + "x", strings.Repeat("show\n", 50) + "show", strings.Repeat("\n", 50) + "\x00",
		strings.Repeat("x", 3000), strings.Repeat("x", 3000) + "\n", strings.Repeat("x", 3001), "turn\n" + strings.Repeat(" ", 2995) + "\n", strings.Repeat(strings.Repeat("x", 59)+"\n", 49) + strings.Repeat("x", 60) + "\n",
		strings.Repeat("show\n", 600), strings.Repeat("show\n", 601), strings.Repeat("\n", 1<<20), strings.Repeat("x", 1<<20), strings.Repeat("x", 1<<20) + "\n",
	}
	for _, s := range texts {
		checkCases(t, []boardCase{{fmt.Sprintf("%.100q", s), callScript(s), scriptFail}})
	}
}

// TestOrdinaryScripts: lines that change the desk for others, and lines that fail and change nothing.
func TestOrdinaryScripts(t *testing.T) {
	checkCases(t, []boardCase{
		{"a board that is built", callScript("fresh 3 2\nput 0\nput 4\ntruth\npicture\nmines\nzeros\nsum\n"),
			"[???/??? ???/??? ???/??? *../.*. *21/2*1 0,4 - 6] true {*../.*. ???/???} true [] true"},
		{"cells that are opened and hidden", callScript("open 2\nopen 1\nopen 5\nhide 2\nopen 2\nshow\nsure\nfree\n"),
			"[??0/???/??? ?10/???/??? ?10/??1/??? ?1?/??1/??? ?10/??1/??? ?10/??1/??? - 4,6] true {*../.../..* ?10/??1/???} true [] true"},
		{"a desk kept by lines that fail", callScript("open 4\nopen 4\nhide 0\nput 0\ntake 1\nboard ???\nfresh 9 9\nboard " + full(".") + "\nopen\nfly\n\nchance 1\nopen 04\nshow\ntruth\n"),
			"[???/?2?/??? no no no no what no no what what what what what ???/?2?/??? *../.../..*] true {*../.../..* ???/?2?/???} true [2 3 4 5 6 7 8 9 10 11 12 13] true"},
		{"plays that are lost and won", callScript("board ??\nboard .*/..\nplay\nturn\nplay\nturn\nplay\nturn\nplay\nmirror\nplay\n"),
			"[what ??/?? 0,1! ??/?? 0,1,2 ??/?? 0,1,2! ??/?? 0! ??/?? 0,1!] true {.*/.. ??/??} true [1] true"},
		{"a view that is won", callScript("board *..*\nopen 1\nopen 2\nchance\nbest\nplay\nsafest\nhide 1\nbest\n"),
			"[???? ?1?? ?11? 1/1 - - 0,3 ??1? 1,3] true {*..* ??1?} true [] true"},
		{"boards that are too wide and too high", callScript("fresh 2 7\nopen 0\nturn\nhide 0\nfresh 8 2\nshow\nfresh 14 1\n"),
			"[??/??/??/??/??/??/?? 0?/??/??/??/??/??/?? ???????/??????? no no ???????/??????? no] true {......./....... ???????/???????} true [4 5 7] true"},
		{"replies to lines that ask alone", callScript("fits\nany\nsafest\nchance\n"), "[36 512 0,1,2,3,4,5,6,7,8 no] true " + firstDeskText + " true [4] true"},
	})
}
