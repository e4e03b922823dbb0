package tests

import (
	"fmt"
	"regexp"
	"slices"
	"strings"
	"testing"

	"loop.example/g01294/impl"
)

// replyOf tells a result of a call as replies tell it.
func replyOf[A any](value A, ok bool) string {
	if !ok {
		return "no"
	}
	if list, isList := any(value).([]int); isList {
		return toldList(list)
	}
	return fmt.Sprint(value)
}

// asked tells what the calls return that the lines name which ask for something.
func asked(t *testing.T, d impl.Desk) map[string]string {
	t.Helper()
	mines, ok := impl.CountMines(d.Board)
	if !ok {
		t.Fatalf("CountMines %s fails", d.Board)
	}
	top, bottom, ok := impl.WinChance(d.View, mines)
	chance := replyOf(fmt.Sprint(top, "/", bottom), ok)
	cells, isWon, ok := impl.PlayBest(d.View, d.Board)
	play := replyOf(cells, ok)
	if ok && !isWon {
		play += "!"
	}
	return map[string]string{
		"show": d.View, "truth": d.Board,
		"picture": replyOf(impl.PictureOf(d.Board)), "sum": replyOf(impl.SumOfNumbers(d.Board)),
		"mines": replyOf(impl.MinesOf(d.Board)), "zeros": replyOf(impl.ZerosOf(d.Board)),
		"fits": replyOf(impl.CountFitting(d.View, mines)), "any": replyOf(impl.CountFitting(d.View, -1)),
		"sure": replyOf(impl.SureMines(d.View, mines)), "free": replyOf(impl.SureFree(d.View, mines)), "safest": replyOf(impl.SafestCells(d.View, mines)),
		"chance": chance, "best": replyOf(impl.BestCells(d.View, mines)), "play": play,
	}
}

// TestPromise10Replies: a line that asks for something tells what the call returns, and leaves the desk as it is.
func TestPromise10Replies(t *testing.T) {
	t.Parallel()
	eachDesk(func(d deskModel) {
		replies := asked(t, d.desk())
		for _, word := range askWords() {
			checkLine(t, d.desk(), word, d.desk(), replies[word])
		}
	})
}

// checkNewBoard: behind a line the desk has the board of a call, all cells hidden, if the call succeeds and so many may be hidden.
func checkNewBoard(t *testing.T, d impl.Desk, line string, board string, ok bool) {
	t.Helper()
	view, viewOK := impl.ViewOf(board, nil)
	if ok && viewOK {
		checkLine(t, d, line, deskOf(board, view), view)
	} else {
		checkLine(t, d, line, d, "no")
	}
}

// checkNewView: behind a line the desk has the view of a call, if it succeeds.
func checkNewView(t *testing.T, d impl.Desk, line string, view string, ok bool) {
	t.Helper()
	if ok {
		checkLine(t, d, line, deskOf(d.Board, view), view)
	} else {
		checkLine(t, d, line, d, "no")
	}
}

// TestPromise10Effects: a line with an effect does what the call does, for each cell that there is and for others.
func TestPromise10Effects(t *testing.T) {
	t.Parallel()
	eachDesk(func(m deskModel) {
		d := m.desk()
		for _, cell := range append(upTo(len(strings.ReplaceAll(d.Board, "/", ""))+2), 64, 100, 101, 256, 1000, 1001, 65536, 65537, 100000, 524288, 999999) {
			number := fmt.Sprint(" ", cell)
			view, ok := impl.OpenCell(d.View, d.Board, cell)
			checkNewView(t, d, "open"+number, view, ok)
			view, ok = impl.CloseView(d.View, cell)
			checkNewView(t, d, "hide"+number, view, ok)
			board, ok := impl.PutMine(d.Board, cell)
			checkNewBoard(t, d, "put"+number, board, ok)
			board, ok = impl.TakeMine(d.Board, cell)
			checkNewBoard(t, d, "take"+number, board, ok)
		}
		board, ok := impl.TurnBoard(d.Board)
		checkNewBoard(t, d, "turn", board, ok)
		board, ok = impl.MirrorBoard(d.Board)
		checkNewBoard(t, d, "mirror", board, ok)
		checkNewBoard(t, d, "board "+d.Board, d.Board, true)
	})
}

// TestPromise10NewBoards: boards that are told, and boards of all sizes and others.
func TestPromise10NewBoards(t *testing.T) {
	t.Parallel()
	d := deskOf("*..", "?1?")
	eachBoard(func(b string) { checkNewBoard(t, d, "board "+b, b, true) })
	sides := append(upTo(20), 64, 100, 1000, 4096, 65536, 131072, 262144, 524288, 999999)
	for _, width := range sides {
		for _, height := range sides {
			board, ok := impl.BoardOfMines(width, height, nil)
			checkNewBoard(t, d, fmt.Sprint("fresh ", width, " ", height), board, ok)
		}
	}
}

// someLines are lines of all kinds for a desk, most of them so that they may do something.
func someLines(d impl.Desk, count int, next func(below int) int) []string {
	cells := len(strings.ReplaceAll(d.Board, "/", ""))
	boards := []string{"*..", "*../.../..*", ".*/..", "........", "*.../..*.", "***", ".", "x", full("."), "..", "*......./......*."}
	var lines []string
	for range count {
		asks, cell := askWords(), fmt.Sprint(" ", next(cells+1))
		lines = append(lines, [...]string{
			asks[next(len(asks))], asks[next(len(asks))], "open" + cell, "open" + cell, "open" + cell, "hide" + cell, "put" + cell, "take" + cell, "turn", "mirror",
			"board " + boards[next(len(boards))], fmt.Sprint("fresh ", next(6), " ", next(5)), "fly", "open 0" + cell, "", asks[next(len(asks))] + " ",
		}[next(16)])
	}
	return lines
}

// eachScript calls a function with the lines of scripts of all lengths.
func eachScript(call func(lines []string)) {
	next := nextNumbers()
	for count := range 51 {
		for range 4 {
			call(someLines(impl.FirstDesk(), count, next))
		}
	}
}

// TestPromise10Scripts: a script does what its lines do, one after the other, and the replies are theirs.
func TestPromise10Scripts(t *testing.T) {
	t.Parallel()
	eachScript(func(lines []string) {
		d, replies, failed := impl.FirstDesk(), []string{}, []int{}
		script := ""
		for i, line := range lines {
			behind, reply, ok := impl.DeskLine(d, line)
			if !ok || !impl.IsDesk(behind) {
				t.Fatalf("%v %q: %v %q %v", d, line, behind, reply, ok)
			}
			if reply == "no" || reply == "what" {
				same(t, "the desk behind "+line, behind, ok, d)
				failed = append(failed, i+1)
			}
			d, replies, script = behind, append(replies, reply), script+line+"\n"
		}
		checkCases(t, []boardCase{{script, callScript(script), told(replies, true, d, true, failed, true)}})
	})
}

// TestScriptsAndModel holds scripts against the model.
func TestScriptsAndModel(t *testing.T) {
	t.Parallel()
	kinds := map[string]int{}
	eachScript(func(lines []string) {
		d, replies := deskModelOf("*../.../..*", "???/???/???"), []string{}
		for _, line := range lines {
			behind, reply := d.line(line)
			replies = append(replies, reply)
			kinds[kindOfReply(line, reply)]++
			d = behind
		}
		script := strings.Join(append(slices.Clone(lines), ""), "\n")
		got, ok := impl.RunScript(script)
		same(t, fmt.Sprintf("RunScript %q", script), got, ok, replies)
		last, ok := impl.DeskAfter(script)
		same(t, fmt.Sprintf("DeskAfter %q", script), last, ok, d.desk())
	})
	for _, kind := range append(askWords(), "open", "hide", "put", "take", "turn", "mirror", "board", "fresh", "open no", "hide no", "put no", "take no", "board no", "fresh no", "chance no", "best no", "play no", "board what", "open what", "what", "fly what", "play lost") {
		if kinds[kind] < 3 {
			t.Errorf("%s: %d times only, of %v", kind, kinds[kind], kinds)
		}
	}
}

// kindOfReply is the first word of a line, and how it failed, or was lost.
func kindOfReply(line string, reply string) string {
	word, _, _ := strings.Cut(line, " ")
	if reply == "no" || reply == "what" {
		return strings.TrimSpace(word + " " + reply)
	}
	if strings.HasSuffix(reply, "!") {
		return word + " lost"
	}
	return word
}

// TestLinesAndModel holds each line on desks of all sizes against the model.
func TestLinesAndModel(t *testing.T) {
	t.Parallel()
	eachDesk(func(d deskModel) {
		cells := len(strings.ReplaceAll(d.board, "/", ""))
		lines := append(askWords(), "turn", "mirror", "board "+d.board, "board "+d.view, "fresh 3 4", "fresh 4 4", "", "show ", "fly", "open 00")
		for _, cell := range append(upTo(cells+1), 999999, 1000000) {
			for _, word := range []string{"open", "hide", "put", "take"} {
				lines = append(lines, fmt.Sprint(word, " ", cell))
			}
		}
		for _, line := range lines {
			behind, reply := d.line(line)
			checkLine(t, d.desk(), line, behind.desk(), reply)
		}
	})
}

// TestIsDeskAndModel: a desk has a view that its board fits, of all pairs of small ones.
func TestIsDeskAndModel(t *testing.T) {
	t.Parallel()
	var views []string
	eachText([]string{"?", "0", "1", "2", "/", "*"}, 3, func(s string) { views = append(views, s) })
	desks := 0
	eachText([]string{".", "*", "/", "?"}, 3, func(board string) {
		for _, view := range views {
			isSeen := boardLine.MatchString("board "+board) && rowsIn(view) == rowsIn(board) && isSeenIn(view, modelOf(board).picture())
			is := isSeen && !strings.Contains(view, "*")
			if impl.IsDesk(deskOf(board, view)) != is {
				t.Fatalf("IsDesk %s %s is %v", board, view, !is)
			}
			if is {
				desks++
			}
		}
	})
	// There are 3 of a single cell, 9 of a row of two and 9 of a column, and 27 of three cells.
	if desks != 48 {
		t.Errorf("%d are desks", desks)
	}
}

// rowsIn tells where the rows of a text end.
func rowsIn(s string) string { return regexp.MustCompile(`[^/]`).ReplaceAllString(s, "x") }

// TestDesksOfTheModel: the desks that the other tests try have all that could go wrong among them.
func TestDesksOfTheModel(t *testing.T) {
	t.Parallel()
	count := map[string]int{}
	eachDesk(func(d deskModel) {
		hidden, mines := strings.Count(d.view, "?"), strings.Count(d.board, "*")
		for what, is := range map[string]bool{
			"no mines":               mines == 0,
			"no free cells":          !strings.Contains(d.board, "."),
			"no hidden cells":        hidden == 0,
			"won already":            hidden == mines && mines > 0 && strings.Contains(d.board, "."),
			"eight hidden cells":     hidden == 8,
			"more hidden cells":      hidden > 8,
			"three mines":            mines == 3 && hidden <= 8,
			"more mines":             mines > 3 && hidden <= 8,
			"fifteen cells and more": len(strings.ReplaceAll(d.board, "/", "")) > 14,
		} {
			if is {
				count[what]++
			}
		}
		for _, word := range []string{"sure", "free", "zeros"} {
			switch reply := d.told(word); {
			case reply == "-":
				count[word+" none"]++
			case strings.Contains(reply, ","):
				count[word+" many"]++
			default:
				count[word+" one"]++
			}
		}
		if strings.HasSuffix(d.told("play"), "!") {
			count["lost"]++
		}
	})
	if len(count) != 19 {
		t.Errorf("there are only %v", count)
	}
	for what, desks := range count {
		if desks < 3 {
			t.Errorf("%s: on %d desks only", what, desks)
		}
	}
}
