package tests

import (
	"fmt"
	"slices"
	"strings"
	"testing"

	"loop.example/g01294/impl"
)

// TestPromise6RanksAndCounts: the lists that fit a strip come one after the other by their ranks, back and forth, no others have one, and they are counted by mines and by cells.
func TestPromise6RanksAndCounts(t *testing.T) {
	t.Parallel()
	eachStrip(func(s string) {
		count, ok := impl.CountStrip(s)
		if !ok {
			t.Fatalf("CountStrip %s fails", s)
		}
		ranked := rankedLists(t, s, count)
		if !slices.IsSorted(ranked) || len(slices.Compact(slices.Clone(ranked))) != count {
			t.Fatalf("%s: the ranked lists are %v", s, ranked)
		}
		checkCounts(t, s, ranked)
		checkCases(t, []boardCase{
			{"StripOfRank " + s + " below the first one", two(impl.StripOfRank(s, -1)), " false"},
			{"StripOfRank " + s + " behind the last one", two(impl.StripOfRank(s, count)), " false"},
		})
		if count == 0 {
			checkCases(t, []boardCase{
				{"FirstStrip " + s, two(impl.FirstStrip(s)), " false"},
				{"LastStrip " + s, two(impl.LastStrip(s)), " false"},
			})
			return
		}
		first, firstOK := impl.FirstStrip(s)
		same(t, "FirstStrip "+s, first, firstOK, ranked[0])
		last, lastOK := impl.LastStrip(s)
		same(t, "LastStrip "+s, last, lastOK, ranked[count-1])
	})
}

// rankedLists returns the lists that fit by their ranks, if each of them fits and has its rank.
func rankedLists(t *testing.T, s string, count int) []string {
	t.Helper()
	var lists []string
	for rank := range count {
		b, ok := impl.StripOfRank(s, rank)
		if !ok {
			t.Fatalf("StripOfRank %s %d fails", s, rank)
		}
		fits, ok := impl.DoesFitStrip(s, b)
		same(t, "DoesFitStrip "+s+" "+b, fits, ok, true)
		again, ok := impl.RankOfStrip(s, b)
		same(t, "RankOfStrip "+s+" "+b, again, ok, rank)
		lists = append(lists, b)
	}
	return lists
}

// checkCounts: lists that fit are as many by their mines, and by the cells that have them, as there are among the ranked ones.
func checkCounts(t *testing.T, s string, lists []string) {
	t.Helper()
	byMines, byCells := make([]int, 41), make([]int, len(s))
	for _, b := range lists {
		byMines[strings.Count(b, "*")]++
		for cell := range b {
			byCells[cell] += strings.Count(b[cell:cell+1], "*")
		}
	}
	told, ok := impl.StripByMines(s)
	same(t, "StripByMines "+s, told, ok, byMines[:len(s)+1])
	for mines, want := range byMines {
		got, ok := impl.CountStripMines(s, mines)
		same(t, fmt.Sprint("CountStripMines ", s, " ", mines), got, ok, want)
	}
	for cell, want := range byCells {
		got, ok := impl.CountStripAt(s, cell)
		same(t, fmt.Sprint("CountStripAt ", s, " ", cell), got, ok, want)
	}
	checkSure(t, s, len(lists), byCells)
}

// checkSure: sure cells are those in which all lists that fit have a mine, or none has.
func checkSure(t *testing.T, s string, count int, byCells []int) {
	t.Helper()
	sure, ok := impl.SureStrip(s)
	if ok != (count > 0) || !ok && sure != "" || ok && len(sure) != len(s) {
		t.Fatalf("SureStrip %s, which %d lists fit: %q %v", s, count, sure, ok)
	}
	for cell := range sure {
		want := "?"
		switch byCells[cell] {
		case count:
			want = "*"
		case 0:
			want = "."
		}
		if sure[cell:cell+1] != want {
			t.Fatalf("SureStrip %s: %s, want %s in the cell %d", s, sure, want, cell)
		}
	}
}

// TestPromise6LongStrips: lists that fit strips of 30 to 40 cells are counted by mines and by cells, and are ranked, as in another way of counting.
func TestPromise6LongStrips(t *testing.T) {
	t.Parallel()
	eachLongStrip(func(s string, b string) {
		l := longStripOf(s)
		want, all, mines := l.byMines(), 0, 0
		for number, count := range want {
			all += count
			mines += number * count
		}
		count, ok := impl.CountStrip(s)
		same(t, "CountStrip "+s, count, ok, all)
		byMines, ok := impl.StripByMines(s)
		same(t, "StripByMines "+s, byMines, ok, want)
		number := strings.Count(b, "*")
		withSoMany, ok := impl.CountStripMines(s, number)
		same(t, fmt.Sprint("CountStripMines ", s, " ", number), withSoMany, ok, want[number])
		var byCells []int
		for cell := range s {
			count, ok := impl.CountStripAt(s, cell)
			backwards, backOK := impl.CountStripAt(backwards(s), len(s)-1-cell)
			same(t, fmt.Sprint("CountStripAt backwards ", s, " ", cell), backwards, backOK && ok, count)
			byCells = append(byCells, count)
			mines -= count
		}
		same(t, "how many mines less than lists have them CountStripAt tells of "+s, mines, true, 0)
		checkSure(t, s, all, byCells)
		checkLongRanks(t, l, b, all)
	})
}

// checkLongRanks: a list has the rank told, and the first ones and the last ones have theirs.
func checkLongRanks(t *testing.T, l longStrip, b string, count int) {
	t.Helper()
	rank, ok := impl.RankOfStrip(l.text, b)
	same(t, "RankOfStrip "+l.text+" "+b, rank, ok, l.rank(b))
	again, ok := impl.StripOfRank(l.text, rank)
	same(t, fmt.Sprint("StripOfRank ", l.text, " ", rank), again, ok, b)
	first, ok := impl.FirstStrip(l.text)
	same(t, "the rank of FirstStrip "+l.text, l.rank(first), ok, 0)
	last, ok := impl.LastStrip(l.text)
	same(t, "the rank of LastStrip "+l.text, l.rank(last), ok, count-1)
	for _, rank := range []int{1, count / 2, count - 2} {
		if rank < 0 || rank >= count {
			continue
		}
		b, ok := impl.StripOfRank(l.text, rank)
		same(t, fmt.Sprint("the rank of StripOfRank ", l.text, " ", rank), l.rank(b), ok, rank)
		fits, ok := impl.DoesFitStrip(l.text, b)
		same(t, "DoesFitStrip "+l.text+" "+b, fits, ok, true)
	}
	checkCases(t, []boardCase{{"StripOfRank " + l.text + " behind the last one", two(impl.StripOfRank(l.text, count)), " false"}})
}

// TestPromise6Views: up to eight cells a strip is a view of one row, and has as many boards, the same ones.
func TestPromise6Views(t *testing.T) {
	eachStrip(func(s string) {
		if len(s) > 8 {
			return
		}
		count, ok := impl.CountStrip(s)
		boards, boardsOK := impl.CountFitting(s, -1)
		same(t, "CountStrip "+s, count, ok && boardsOK, boards)
		byMines, ok := impl.StripByMines(s)
		views, viewsOK := impl.CountByMines(s)
		// Views tell of as many mines as there are hidden cells alone.
		same(t, "StripByMines "+s, byMines, ok && viewsOK, append(views, make([]int, len(s)+1-len(views))...))
		if count > 0 && count <= impl.MaxBoards {
			texts, ok := impl.FittingBoards(s, -1)
			same(t, "the lists that fit "+s, rankedLists(t, s, count), ok, texts)
		}
	})
}

// TestStripsAndModel holds all functions of a strip against the model.
func TestStripsAndModel(t *testing.T) {
	t.Parallel()
	eachStrip(func(s string) {
		m := stripModelOf(s)
		checkCases(t, []boardCase{
			{"IsStrip " + s, told(impl.IsStrip(s)), "true"},
			{"CountStrip " + s, two(impl.CountStrip(s)), told(len(m.fit), true)},
			{"StripByMines " + s, two(impl.StripByMines(s)), told(m.byMines(), true)},
			{"BackStrip " + s, two(impl.BackStrip(s)), told(backwards(s), true)},
		})
		for mines, count := range m.byMines() {
			checkCases(t, []boardCase{{fmt.Sprint("CountStripMines ", s, " ", mines), two(impl.CountStripMines(s, mines)), told(count, true)}})
		}
		for cell := range s {
			checkCases(t, []boardCase{{fmt.Sprint("CountStripAt ", s, " ", cell), two(impl.CountStripAt(s, cell)), told(len(m.with(cell)), true)}})
		}
		if len(m.fit) == 0 {
			checkCases(t, []boardCase{{"what is told of " + s, callThatNeedsLists(s), noListsFit}})
			return
		}
		checkCases(t, []boardCase{
			{"FirstStrip " + s, two(impl.FirstStrip(s)), told(m.fit[0], true)},
			{"LastStrip " + s, two(impl.LastStrip(s)), told(m.fit[len(m.fit)-1], true)},
			{"SureStrip " + s, two(impl.SureStrip(s)), told(m.sure(), true)},
			{"LongestFree " + s, two(impl.LongestFree(s)), told(m.longestFree(), true)},
		})
		for rank, b := range m.fit {
			checkCases(t, []boardCase{
				{fmt.Sprint("StripOfRank ", s, " ", rank), two(impl.StripOfRank(s, rank)), told(b, true)},
				{"RankOfStrip " + s + " " + b, two(impl.RankOfStrip(s, b)), told(rank, true)},
			})
		}
	})
}

// callThatNeedsLists calls the functions that fail if no list fits, and tells what they return.
func callThatNeedsLists(s string) string {
	return told(two(impl.FirstStrip(s)), two(impl.LastStrip(s)), two(impl.StripOfRank(s, 0)), two(impl.SureStrip(s)), two(impl.LongestFree(s)))
}

const noListsFit = " false  false  false  false 0 false"

// TestFitAndModel tries all lists of mines with strips that they fit, or fit but for a few cells.
func TestFitAndModel(t *testing.T) {
	eachStrip(func(s string) {
		for i, list := range listsOf(len(s)) {
			// Of the longest lists not all are tried.
			if len(s) > 7 && (i+len(s))%13 > 0 {
				continue
			}
			fits := isSeenIn(s, list.picture)
			got, ok := impl.DoesFitStrip(s, list.mines)
			same(t, "DoesFitStrip "+s+" "+list.mines, got, ok, fits)
			if !fits {
				checkCases(t, []boardCase{{"RankOfStrip " + s + " " + list.mines, two(impl.RankOfStrip(s, list.mines)), "0 false"}})
			}
		}
	})
}

// TestHideAndModel hides the cells of all lists of mines of up to five cells, of some up to ten, and of some of 30 to 40 cells.
func TestHideAndModel(t *testing.T) {
	for cells := 1; cells <= 5; cells++ {
		for _, list := range listsOf(cells) {
			for bits := range 1 << cells {
				checkHide(t, list.mines, slices.DeleteFunc(upTo(cells), func(cell int) bool { return bits>>cell&1 == 0 }))
			}
		}
	}
	next := nextNumbers()
	for cells := 6; cells <= 10; cells++ {
		for range 200 {
			checkHide(t, someList(cells, next), someCells(cells, next))
		}
	}
	eachLongStrip(func(s string, b string) {
		checkHide(t, b, slices.DeleteFunc(upTo(len(b)), func(cell int) bool { return s[cell] != '?' }))
		checkHide(t, b, someCells(len(b), next))
	})
}

// checkHide: the list fits the strip in which it is hidden, which has no other digits than the pictures that chapter 1 tells.
func checkHide(t *testing.T, b string, hidden []int) {
	t.Helper()
	call := fmt.Sprint("HideStrip ", b, " ", hidden)
	s, ok := impl.HideStrip(b, hidden)
	same(t, call, s, ok, hiddenIn(b, hidden))
	fits, ok := impl.DoesFitStrip(s, b)
	same(t, "DoesFitStrip of "+call, fits, ok, true)
	if len(b) > 8 {
		return
	}
	picture, ok := impl.PictureOf(b)
	if !ok || !isSeenIn(s, picture) {
		t.Fatalf("%s: %s does not tell %s", call, s, picture)
	}
	open := slices.DeleteFunc(upTo(len(b)), func(cell int) bool { return b[cell] == '*' || slices.Contains(hidden, cell) })
	view, ok := impl.ViewOf(b, open)
	same(t, "ViewOf the same as "+call, view, ok, s)
}

// TestPromise6StripSums: sums are those that chapter 1 tells of boards of one row, of up to eight cells, and those of the model, of up to ten.
func TestPromise6StripSums(t *testing.T) {
	for cells := 1; cells <= 10; cells++ {
		bySum := make([]int, 101)
		for _, list := range listsOf(cells) {
			sum := textModelOf(list.mines).sum
			if cells <= 8 {
				got, ok := impl.SumOfNumbers(list.mines)
				same(t, "SumOfNumbers "+list.mines, got, ok, sum)
			}
			bySum[sum]++
		}
		for sum, want := range bySum {
			got, ok := impl.CountStripSums(cells, sum)
			same(t, fmt.Sprint("CountStripSums ", cells, " ", sum), got, ok, want)
		}
	}
}

// TestStripSumsOfAllSizes: all lists have some sum, and it is that of the places in which the sign changes.
func TestStripSumsOfAllSizes(t *testing.T) {
	for cells := 1; cells <= 40; cells++ {
		all := 0
		for sum := range 101 {
			count, ok := impl.CountStripSums(cells, sum)
			same(t, fmt.Sprint("the half of CountStripSums ", cells, " ", sum), count/2, ok && count%2 == 0, choose(cells-1, sum))
			all += count
		}
		same(t, fmt.Sprint("the sum of CountStripSums ", cells), all, true, 1<<cells)
	}
}

// TestListsOfNumbers holds the counts against lists of numbers made by the model, and against what is known: numbers tell all mines of an even number of cells; of an odd one two lists at a time have the same numbers, where those are 1 in all cells with an odd index.
func TestListsOfNumbers(t *testing.T) {
	for cells := 1; cells <= 12; cells++ {
		want := 1 << cells
		if cells%2 == 1 {
			want -= 1 << (cells / 2)
		}
		got, ok := impl.CountLists(cells)
		same(t, fmt.Sprint("CountLists ", cells), got, ok, want)
		numbers := map[string]bool{}
		for bits := range uint64(1) << cells {
			numbers[textModelOf(textOfBits(cells, 1, bits)).numbers] = true
		}
		same(t, fmt.Sprint("CountLists ", cells), got, ok, len(numbers))
	}
}
