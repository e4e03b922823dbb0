package tests

import (
	"fmt"
	"math/big"
	"slices"
	"strings"
	"sync"
	"testing"
)

// textModel is a board told by its text, with the numbers of all its cells as digits.
type textModel struct {
	text    string
	picture string
	numbers string
	mines   int
	sum     int
}

func textModelOf(b string) textModel {
	m := modelOf(b)
	told := textModel{text: b, picture: m.picture(), mines: strings.Count(b, "*")}
	for cell := range m.cells() {
		told.numbers += fmt.Sprint(m.number(cell))
		if !m.hasMine(cell) {
			told.sum += m.number(cell)
		}
	}
	return told
}

// seen are the signs of the picture, one for each cell: a digit in a free cell.
func (b textModel) seen() string { return strings.ReplaceAll(b.picture, "/", "") }

func (b textModel) hasZero() bool { return strings.Contains(b.picture, "0") }

// isApart tells whether each mine has the number 0.
func (b textModel) isApart() bool {
	for cell, sign := range b.seen() {
		if sign == '*' && b.numbers[cell] != '0' {
			return false
		}
	}
	return true
}

// sizeModel is a size told by all boards of it, in order.
type sizeModel struct {
	width  int
	height int
	boards []textModel
}

func sizeModelOf(width int, height int) sizeModel {
	var texts []string
	for bits := range uint64(1) << (width * height) {
		texts = append(texts, textOfBits(width, height, bits))
	}
	slices.Sort(texts)
	m := sizeModel{width: width, height: height}
	for _, b := range texts {
		m.boards = append(m.boards, textModelOf(b))
	}
	return m
}

// sizeModels are all sizes of at most twelve cells.
var sizeModels = sync.OnceValue(func() []sizeModel {
	var models []sizeModel
	for width := 1; width <= 8; width++ {
		for height := 1; height <= 8 && width*height <= 12; height++ {
			models = append(models, sizeModelOf(width, height))
		}
	}
	return models
})

// eachSmallSize calls a function with all sizes of at most twelve cells, beside each other.
func eachSmallSize(t *testing.T, call func(t *testing.T, m sizeModel)) {
	t.Helper()
	for _, m := range sizeModels() {
		t.Run(fmt.Sprintf("%d by %d", m.width, m.height), func(t *testing.T) {
			t.Parallel()
			call(t, m)
		})
	}
}

// eachSize calls a function with all sizes that boards may have.
func eachSize(call func(width int, height int)) {
	for width := 1; width <= 8; width++ {
		for height := 1; height <= 8; height++ {
			call(width, height)
		}
	}
}

func (m sizeModel) cells() int { return m.width * m.height }

// those are the boards for which a function holds, in order.
func (m sizeModel) those(holds func(b textModel) bool) []textModel {
	boards := []textModel{}
	for _, b := range m.boards {
		if holds(b) {
			boards = append(boards, b)
		}
	}
	return boards
}

func (m sizeModel) count(holds func(b textModel) bool) int { return len(m.those(holds)) }

// withMines are the boards with so many mines.
func (m sizeModel) withMines(mines int) []textModel {
	return m.those(func(b textModel) bool { return b.mines == mines })
}

// freeIn are the boards with so many mines that have none in a cell.
func (m sizeModel) freeIn(mines int, cell int) []textModel {
	return m.those(func(b textModel) bool { return b.mines == mines && b.seen()[cell] != '*' })
}

// sums tell the boards for each sum that there is.
func (m sizeModel) sums() [][]int {
	out := [][]int{}
	for sum := range 501 {
		if count := m.count(func(b textModel) bool { return b.sum == sum }); count > 0 {
			out = append(out, []int{sum, count})
		}
	}
	return out
}

// same are the texts of the boards with some numbers.
func (m sizeModel) same(numbers string) []string {
	var texts []string
	for _, b := range m.those(func(b textModel) bool { return b.numbers == numbers }) {
		texts = append(texts, b.text)
	}
	return texts
}

// alone tells how many boards have numbers that no other one has.
func (m sizeModel) alone() int {
	count := map[string]int{}
	for _, b := range m.boards {
		count[b.numbers]++
	}
	return m.count(func(b textModel) bool { return count[b.numbers] == 1 })
}

// greatest is the first board with the greatest sum.
func (m sizeModel) greatest() textModel {
	return slices.MaxFunc(m.boards, func(a textModel, b textModel) int { return a.sum - b.sum })
}

// near is the first board with the fewest mines that has no zero.
func (m sizeModel) near() textModel {
	boards := m.those(func(b textModel) bool { return !b.hasZero() })
	return slices.MinFunc(boards, func(a textModel, b textModel) int { return a.mines - b.mines })
}

// apart is the greatest number of mines none of which are neighbours, and how many boards have them.
func (m sizeModel) apart() (int, int) {
	boards := m.those(textModel.isApart)
	most := slices.MaxFunc(boards, func(a textModel, b textModel) int { return a.mines - b.mines }).mines
	return most, m.count(func(b textModel) bool { return b.isApart() && b.mines == most })
}

// meanOf tells the mean of what a function tells of some boards, as functions of the program tell it.
func meanOf(boards []textModel, value func(b textModel) int) string {
	if len(boards) == 0 {
		return "0 0 false"
	}
	sum := 0
	for _, b := range boards {
		sum += value(b)
	}
	return toldMean(big.NewRat(int64(sum), int64(len(boards))))
}

// toldMean tells a fraction of the library, which is in lowest terms.
func toldMean(mean *big.Rat) string { return told(mean.Num(), mean.Denom(), true) }

// share is a part of some things, in lowest terms.
func share(part *big.Int, all *big.Int) *big.Rat { return new(big.Rat).SetFrac(part, all) }

// choose tells in how many ways some things are taken out of others.
func choose(all int, taken int) *big.Int {
	if taken < 0 || taken > all {
		return new(big.Int)
	}
	return new(big.Int).Binomial(int64(all), int64(taken))
}

// meanNear is the mean number of a free cell with so many neighbours, summed up over all numbers it may have, where so many mines are in so many other cells.
func meanNear(near int, others int, mines int) *big.Rat {
	sum := new(big.Int)
	for number := range near + 1 {
		boards := new(big.Int).Mul(choose(near, number), choose(others-near, mines-number))
		sum.Add(sum, boards.Mul(boards, big.NewInt(int64(number))))
	}
	return share(sum, choose(others, mines))
}

// greatestByRows is the greatest sum of a size, found row by row: for each row that may be the last one, the greatest sum of all rows up to it.
func greatestByRows(width int, height int) int {
	sums := make([]int, 1<<width)
	for row := range sums {
		sums[row] = textModelOf(textOfBits(width, 1, uint64(row))).sum
	}
	within := slices.Clone(sums)
	for range height - 1 {
		next := make([]int, 1<<width)
		for below := range next {
			for above := range sums {
				next[below] = max(next[below], sums[above]+within[below]+betweenRows(width, above, below))
			}
		}
		sums = next
	}
	return slices.Max(sums)
}

// betweenRows tells how many cells of two rows, one below the other, touch one of the other row where just one of both has a mine.
func betweenRows(width int, above int, below int) int {
	count := 0
	for at := range width {
		for _, other := range []int{at - 1, at, at + 1} {
			if other >= 0 && other < width && above>>at&1 != below>>other&1 {
				count++
			}
		}
	}
	return count
}
