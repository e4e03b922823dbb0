package tests

import (
	"fmt"
	"math/big"
	"slices"
	"testing"

	"loop.example/g01294/impl"
)

// TestPromise5Lists: counts and means are those of a list of all boards, with the mines, sums and numbers that chapter 1 tells.
func TestPromise5Lists(t *testing.T) {
	eachSmallSize(t, func(t *testing.T, m sizeModel) {
		byMines, sumsByMines := make([]int, m.cells()+1), make([]int, m.cells()+1)
		bySum, byNumbers := make([]int, 501), map[string]int{}
		for bits := range 1 << m.cells() {
			cells := slices.DeleteFunc(upTo(m.cells()), func(cell int) bool { return bits>>cell&1 == 0 })
			b, boardOK := impl.BoardOfMines(m.width, m.height, cells)
			sum, sumOK := impl.SumOfNumbers(b)
			numbers, numbersOK := impl.NumbersOf(b)
			if !boardOK || !sumOK || !numbersOK {
				t.Fatalf("chapter 1 fails for %d by %d, %v", m.width, m.height, cells)
			}
			byMines[len(cells)]++
			sumsByMines[len(cells)] += sum
			bySum[sum]++
			byNumbers[fmt.Sprint(numbers)]++
		}
		for mines, boards := range byMines {
			call := fmt.Sprintf(" %d %d %d", m.width, m.height, mines)
			count, ok := impl.CountBoards(m.width, m.height, mines)
			same(t, "CountBoards"+call, count, ok, boards)
			mean := toldMean(big.NewRat(int64(sumsByMines[mines]), int64(boards)))
			checkCases(t, []boardCase{{"MeanSum" + call, three(impl.MeanSum(m.width, m.height, mines)), mean}})
		}
		checkSums(t, m, bySum)
		checkTold(t, m, byNumbers)
	})
}

// checkSums: sums are counted as in a list of them.
func checkSums(t *testing.T, m sizeModel, bySum []int) {
	t.Helper()
	var counts [][]int
	for sum, boards := range bySum {
		count, ok := impl.CountWithSum(m.width, m.height, sum)
		same(t, fmt.Sprintf("CountWithSum %d %d %d", m.width, m.height, sum), count, ok, boards)
		if boards > 0 {
			counts = append(counts, []int{sum, boards})
		}
	}
	call := fmt.Sprintf(" %d %d", m.width, m.height)
	sums, ok := impl.SumCounts(m.width, m.height)
	same(t, "SumCounts"+call, sums, ok, counts)
	greatest, ok := impl.GreatestSum(m.width, m.height)
	same(t, "GreatestSum"+call, greatest, ok, counts[len(counts)-1][0])
}

// checkTold: as many boards are alone as there are numbers that one of them has.
func checkTold(t *testing.T, m sizeModel, byNumbers map[string]int) {
	t.Helper()
	alone := 0
	for _, boards := range byNumbers {
		if boards == 1 {
			alone++
		}
	}
	count, ok := impl.CountToldBoards(m.width, m.height)
	same(t, fmt.Sprintf("CountToldBoards %d %d", m.width, m.height), count, ok, alone)
}

// TestPromise5Totals: boards by mines, by sums and by the numbers of a cell make up the same boards.
func TestPromise5Totals(t *testing.T) {
	eachSmallSize(t, func(t *testing.T, m sizeModel) {
		byMines, bySum := 0, 0
		for mines := range m.cells() + 1 {
			boards, ok := impl.CountBoards(m.width, m.height, mines)
			same(t, fmt.Sprintf("CountBoards %d %d %d", m.width, m.height, mines), boards, ok, choose(m.cells(), mines))
			byMines += boards
			for cell := range m.cells() {
				checkNumbersOfCell(t, m, mines, cell)
			}
		}
		sums, ok := impl.SumCounts(m.width, m.height)
		for _, sum := range sums {
			bySum += sum[1]
		}
		if byMines != 1<<m.cells() || bySum != byMines || !ok {
			t.Fatalf("%d by %d: %d boards by mines, %d by sums", m.width, m.height, byMines, bySum)
		}
	})
}

// checkNumbersOfCell: boards by the numbers of a cell are all that have no mine there, and have the mean number told.
func checkNumbersOfCell(t *testing.T, m sizeModel, mines int, cell int) {
	t.Helper()
	boards, sum := 0, 0
	for number := range 9 {
		count, ok := impl.CountWithNumber(m.width, m.height, mines, cell, number)
		if !ok {
			t.Fatalf("CountWithNumber %d %d %d %d %d fails", m.width, m.height, mines, cell, number)
		}
		boards += count
		sum += count * number
	}
	call := fmt.Sprintf(" %d %d %d %d", m.width, m.height, mines, cell)
	same(t, "the sum of CountWithNumber"+call, boards, true, choose(m.cells()-1, mines))
	numerator, denominator, ok := impl.MeanNumber(m.width, m.height, mines, cell)
	if ok != (boards > 0) || numerator*boards != sum*denominator || ok && denominator < 1 {
		t.Fatalf("MeanNumber%s: %d / %d %v, want %d / %d", call, numerator, denominator, ok, sum, boards)
	}
}

// TestPromise5SameNumbers: each board is with those that have the same numbers as chapter 1 tells them, in order, and with no others.
func TestPromise5SameNumbers(t *testing.T) {
	eachSmallSize(t, func(t *testing.T, m sizeModel) {
		for i, b := range m.boards {
			// Of the largest sizes not all boards are tried.
			if m.cells() > 10 && i%7 > 0 {
				continue
			}
			texts, ok := impl.SameNumbers(b.text)
			if !ok || !slices.Contains(texts, b.text) || !slices.IsSorted(texts) {
				t.Fatalf("SameNumbers %s: %v %v", b.text, texts, ok)
			}
			numbers, _ := impl.NumbersOf(b.text)
			for _, text := range texts {
				others, ok := impl.NumbersOf(text)
				same(t, "NumbersOf "+text+" out of SameNumbers "+b.text, others, ok, numbers)
			}
			if i%11 == 0 {
				same(t, "SameNumbers "+b.text, texts, ok, m.same(b.numbers))
			}
		}
	})
}

// TestCountsAndModel holds all functions of a size against the model.
func TestCountsAndModel(t *testing.T) {
	eachSmallSize(t, func(t *testing.T, m sizeModel) {
		greatest, near := m.greatest(), m.near()
		most, boards := m.apart()
		call := fmt.Sprintf(" %d %d", m.width, m.height)
		checkCases(t, []boardCase{
			{"SumCounts" + call, two(impl.SumCounts(m.width, m.height)), told(m.sums(), true)},
			{"GreatestSum" + call, two(impl.GreatestSum(m.width, m.height)), told(greatest.sum, true)},
			{"FirstGreatest" + call, two(impl.FirstGreatest(m.width, m.height)), told(greatest.text, true)},
			{"CountToldBoards" + call, two(impl.CountToldBoards(m.width, m.height)), told(m.alone(), true)},
			{"MostApart" + call, two(impl.MostApart(m.width, m.height)), told(most, true)},
			{"CountMostApart" + call, two(impl.CountMostApart(m.width, m.height)), told(boards, true)},
			{"FewestNear" + call, two(impl.FewestNear(m.width, m.height)), told(near.mines, true)},
			{"FirstNear" + call, two(impl.FirstNear(m.width, m.height)), told(near.text, true)},
		})
		for mines := range m.cells() + 1 {
			checkSizeWithMines(t, m, mines)
		}
	})
}

// checkSizeWithMines holds the functions of a size and a number of mines against the model.
func checkSizeWithMines(t *testing.T, m sizeModel, mines int) {
	t.Helper()
	boards := m.withMines(mines)
	call := fmt.Sprintf(" %d %d %d", m.width, m.height, mines)
	zeros := m.count(func(b textModel) bool { return b.mines == mines && b.hasZero() })
	checkCases(t, []boardCase{
		{"CountBoards" + call, two(impl.CountBoards(m.width, m.height, mines)), told(len(boards), true)},
		{"MeanSum" + call, three(impl.MeanSum(m.width, m.height, mines)), meanOf(boards, func(b textModel) int { return b.sum })},
		{"CountZeroBoards" + call, two(impl.CountZeroBoards(m.width, m.height, mines)), told(zeros, true)},
	})
	for cell := range m.cells() {
		free := m.freeIn(mines, cell)
		call := fmt.Sprint(call, " ", cell)
		numberOf := func(b textModel) int { return int(b.numbers[cell] - '0') }
		checkCases(t, []boardCase{{"MeanNumber" + call, three(impl.MeanNumber(m.width, m.height, mines, cell)), meanOf(free, numberOf)}})
		var counts [9]int
		for _, b := range free {
			counts[numberOf(b)]++
		}
		for number, count := range counts {
			got := two(impl.CountWithNumber(m.width, m.height, mines, cell, number))
			checkCases(t, []boardCase{{fmt.Sprint("CountWithNumber", call, " ", number), got, told(count, true)}})
		}
	}
}

// TestPairsAndGreatestSumsOfAllSizes counts pairs by neighbours, and holds greatest sums against those found row by row, and those of mines in each second row or column.
func TestPairsAndGreatestSumsOfAllSizes(t *testing.T) {
	eachSize(func(width int, height int) {
		call := fmt.Sprintf(" %d %d", width, height)
		free := modelOf(textOfBits(width, height, 0))
		ends := 0
		for cell := range free.cells() {
			ends += len(free.near(cell))
		}
		pairs, ok := impl.PairsOfCells(width, height)
		same(t, "twice PairsOfCells"+call, 2*pairs, ok, ends)
		greatest, ok := impl.GreatestSum(width, height)
		same(t, "GreatestSum"+call, greatest, ok, greatestByRows(width, height))
		rows, rowsOK := impl.SumOfNumbers(free.text(func(cell int) string { return secondSign(cell / width) }))
		columns, columnsOK := impl.SumOfNumbers(free.text(func(cell int) string { return secondSign(cell % width) }))
		same(t, "the sum of each second row or column"+call, max(rows, columns), rowsOK && columnsOK, greatest)
	})
}

// secondSign is a mine in each second line.
func secondSign(line int) string {
	if line%2 == 1 {
		return "*"
	}
	return "."
}

// TestMeansOfAllSizes sums up mean numbers over all numbers that cells may have, and mean sums over all cells.
func TestMeansOfAllSizes(t *testing.T) {
	eachSize(func(width int, height int) {
		cells := width * height
		free := modelOf(textOfBits(width, height, 0))
		for mines := range cells {
			mean := new(big.Rat)
			for cell := range cells {
				number := meanNear(len(free.near(cell)), cells-1, mines)
				call := fmt.Sprintf("MeanNumber %d %d %d %d", width, height, mines, cell)
				checkCases(t, []boardCase{{call, three(impl.MeanNumber(width, height, mines, cell)), toldMean(number)}})
				mean.Add(mean, number.Mul(number, big.NewRat(int64(cells-mines), int64(cells))))
			}
			call := fmt.Sprintf("MeanSum %d %d %d", width, height, mines)
			checkCases(t, []boardCase{{call, three(impl.MeanSum(width, height, mines)), toldMean(mean)}})
		}
	})
}
