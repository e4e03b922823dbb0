package tests

import (
	"fmt"
	"strings"
	"testing"

	"loop.example/g01294/impl"
)

// minesFor are numbers of mines that a view may be asked for: any, none, some, all hidden cells, one more, and the most there may be.
func minesFor(m viewModel) []int {
	mines := []int{-1}
	for count := range len(m.hidden) + 2 {
		mines = append(mines, count)
	}
	return append(mines, 64)
}

// TestPromise3Chances: chances are shares of the boards that fit, in lowest terms.
func TestPromise3Chances(t *testing.T) {
	eachView(func(v string) {
		hidden, _ := impl.HiddenCells(v)
		for mines := -1; mines <= len(hidden)+1; mines++ {
			call := fmt.Sprintf(" %s %d", v, mines)
			boards, boardsOK := impl.FittingBoards(v, mines)
			chances, ok := impl.ChancesOf(v, mines)
			if !boardsOK || ok != (len(boards) > 0) {
				t.Fatalf("FittingBoards%s: %d boards %v, ChancesOf: %v", call, len(boards), boardsOK, ok)
			}
			if ok && len(chances) != len(hidden) {
				t.Fatalf("ChancesOf%s: %v for %v", call, chances, hidden)
			}
			for i, chance := range chances {
				checkShare(t, call, boards, hidden[i], chance)
			}
		}
	})
}

// checkShare: numerator and denominator tell the part of the boards with a mine in a cell, and have no common divisor.
func checkShare(t *testing.T, call string, boards []string, cell int, chance []int) {
	t.Helper()
	count := 0
	for _, b := range boards {
		if strings.ReplaceAll(b, "/", "")[cell] == '*' {
			count++
		}
	}
	if len(chance) != 2 || chance[0]*len(boards) != count*chance[1] || chance[1] <= 0 {
		t.Fatalf("ChancesOf%s: %v for the cell %d, with a mine in %d of %d", call, chance, cell, count, len(boards))
	}
	for divisor := 2; divisor <= chance[1]; divisor++ {
		if chance[0]%divisor == 0 && chance[1]%divisor == 0 {
			t.Fatalf("ChancesOf%s: %v for the cell %d is not in lowest terms", call, chance, cell)
		}
	}
}

// TestPromise3BoardsThatFit: they are just those that DoesFitView tells out of all boards of the size.
func TestPromise3BoardsThatFit(t *testing.T) {
	eachView(func(v string) {
		m := viewModelOf(v)
		if m.cells() > 6 {
			return
		}
		fit := 0
		for bits := range uint64(1) << m.cells() {
			b := textOfBits(m.width, m.cells()/m.width, bits)
			does, ok := impl.DoesFitView(v, b)
			same(t, "DoesFitView "+v+" "+b, does, ok, isSeenIn(v, modelOf(b).picture()))
			if does {
				fit++
			}
		}
		count, ok := impl.CountFitting(v, -1)
		same(t, "CountFitting "+v, count, ok, fit)
		boards, ok := impl.FittingBoards(v, -1)
		same(t, "FittingBoards "+v, boards, ok, m.fit)
	})
}

// TestPromise3SumsOfChances: the mean number of mines is the sum of the chances, and the counts by mines make up all boards that fit.
func TestPromise3SumsOfChances(t *testing.T) {
	eachView(func(v string) {
		all, ok := impl.CountFitting(v, -1)
		counts, countsOK := impl.CountByMines(v)
		if !ok || !countsOK {
			t.Fatalf("CountFitting %s: %v, CountByMines: %v", v, ok, countsOK)
		}
		sum, weighted := 0, 0
		for mines, count := range counts {
			one, ok := impl.CountFitting(v, mines)
			same(t, fmt.Sprintf("CountFitting %s %d", v, mines), one, ok, count)
			sum += count
			weighted += count * mines
		}
		same(t, "the sum of CountByMines "+v, sum, true, all)
		numerator, denominator, ok := impl.MeanMines(v)
		if ok != (all > 0) || numerator*all != weighted*denominator {
			t.Fatalf("MeanMines %s: %d / %d %v, want %d / %d", v, numerator, denominator, ok, weighted, all)
		}
		chances, _ := impl.ChancesOf(v, -1)
		of := 0
		for _, chance := range chances {
			of += all / chance[1] * chance[0]
		}
		same(t, "the sum of ChancesOf "+v, of, true, weighted)
	})
}

// TestViewsAndModel holds the functions of a view and a number of mines against the model.
func TestViewsAndModel(t *testing.T) {
	eachView(func(v string) {
		m := viewModelOf(v)
		checkView(t, m)
		for _, mines := range minesFor(m) {
			checkViewWith(t, m, mines)
		}
	})
}

// checkView holds the functions of a view alone against the model.
func checkView(t *testing.T, m viewModel) {
	t.Helper()
	v := m.text
	byMines := []int{}
	for mines := range len(m.hidden) + 1 {
		byMines = append(byMines, len(m.with(mines)))
	}
	mean := "0 0 false"
	if len(m.fit) > 0 {
		numerator, denominator := m.mean()
		mean = told(numerator, denominator, true)
	}
	checkCases(t, []boardCase{
		{"IsView " + v, told(impl.IsView(v)), "true"},
		{"HiddenCells " + v, two(impl.HiddenCells(v)), told(m.hidden, true)},
		{"CountByMines " + v, two(impl.CountByMines(v)), told(byMines, true)},
		{"MeanMines " + v, three(impl.MeanMines(v)), mean},
	})
	for cell := range m.cells() {
		want := " false"
		if m.text[m.place(cell)] != '?' {
			want = m.withSign(cell, "?") + " true"
		}
		checkCases(t, []boardCase{{fmt.Sprintf("CloseView %s %d", v, cell), two(impl.CloseView(v, cell)), want}})
	}
}

// checkViewWith holds the functions of a view and a number of mines against the model.
func checkViewWith(t *testing.T, m viewModel, mines int) {
	t.Helper()
	call := fmt.Sprintf(" %s %d", m.text, mines)
	boards := m.with(mines)
	checkCases(t, []boardCase{
		{"CountFitting" + call, two(impl.CountFitting(m.text, mines)), told(len(boards), true)},
		{"FittingBoards" + call, two(impl.FittingBoards(m.text, mines)), told(boards, true)},
		{"IsSettled" + call, two(impl.IsSettled(m.text, mines)), told(len(boards) == 1, true)},
	})
	if len(boards) == 0 {
		checkCases(t, []boardCase{{"no board fits" + call, callNeedingBoards(m.text, mines, firstOf(m.hidden)), needingBoardsFail}})
		return
	}
	checkCases(t, []boardCase{
		{"SureMines" + call, two(impl.SureMines(m.text, mines)), told(m.hiddenWith(boards, func(count int) bool { return count == len(boards) }), true)},
		{"SureFree" + call, two(impl.SureFree(m.text, mines)), told(m.hiddenWith(boards, func(count int) bool { return count == 0 }), true)},
		{"ChancesOf" + call, two(impl.ChancesOf(m.text, mines)), told(m.chances(boards), true)},
		{"SafestCells" + call, two(impl.SafestCells(m.text, mines)), told(m.safest(boards), true)},
	})
	for cell := range m.cells() {
		want := "[] false"
		if m.text[m.place(cell)] == '?' {
			want = told(m.numbersFor(boards, cell), true)
		}
		checkCases(t, []boardCase{{fmt.Sprint("NumbersFor", call, " ", cell), two(impl.NumbersFor(m.text, mines, cell)), want}})
	}
}

// callNeedingBoards calls every function with a number of mines that fails if no board fits.
func callNeedingBoards(v string, mines int, cell int) string {
	return told(
		two(impl.SureMines(v, mines)), two(impl.SureFree(v, mines)), two(impl.ChancesOf(v, mines)),
		two(impl.SafestCells(v, mines)), two(impl.NumbersFor(v, mines, cell)))
}

const needingBoardsFail = "[] false [] false [] false [] false [] false"

// firstOf is the first cell of a list, or 0.
func firstOf(cells []int) int {
	if len(cells) == 0 {
		return 0
	}
	return cells[0]
}

// TestOpenCellAndModel opens all cells of views on all boards that fit, and on some that do not.
func TestOpenCellAndModel(t *testing.T) {
	eachView(func(v string) {
		m := viewModelOf(v)
		for _, b := range m.fit {
			on := modelOf(b)
			for cell := range m.cells() {
				want := " false"
				if m.text[m.place(cell)] == '?' && !on.hasMine(cell) {
					want = m.withSign(cell, fmt.Sprint(on.number(cell))) + " true"
				}
				checkCases(t, []boardCase{{fmt.Sprintf("OpenCell %s %s %d", v, b, cell), two(impl.OpenCell(v, b, cell)), want}})
			}
		}
		if all := textOfBits(m.width, m.cells()/m.width, ^uint64(0)); len(m.hidden) < m.cells() {
			checkCases(t, []boardCase{{"OpenCell " + v + " " + all, two(impl.OpenCell(v, all, firstOf(m.hidden))), " false"}})
		}
	})
}

// TestViewOfAndModel opens free cells of boards, and opens what is hidden one by one.
func TestViewOfAndModel(t *testing.T) {
	eachBoard(func(b string) {
		m := modelOf(b)
		free := m.pick(m.isFree)
		for count := range len(free) + 1 {
			open, hidden := free[:count], free[count:]
			want := " false"
			if m.cells()-count <= 14 {
				want = viewOf(b, hidden) + " true"
			}
			checkCases(t, []boardCase{{fmt.Sprint("ViewOf ", b, open), two(impl.ViewOf(b, open)), want}})
			if count > 0 && want != " false" {
				v, _ := impl.ViewOf(b, open)
				same(t, "DoesFitView "+v+" "+b, two(impl.DoesFitView(v, b)), true, "true true")
				if closed, ok := impl.CloseView(v, open[count-1]); ok {
					again, ok := impl.OpenCell(closed, b, open[count-1])
					same(t, fmt.Sprint("OpenCell ", closed, b, open[count-1]), again, ok, v)
				}
			}
		}
	})
}
