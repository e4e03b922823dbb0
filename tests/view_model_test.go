package tests

import (
	"math/big"
	"slices"
	"strings"
)

// viewModel is a view told by the texts of all boards that fit it, found by holding their pictures against it.
type viewModel struct {
	text   string
	width  int
	hidden []int
	fit    []string
}

// viewModelOf goes over all boards with mines in hidden cells alone.
func viewModelOf(v string) viewModel {
	m := viewModel{text: v, width: strings.Index(v+"/", "/"), hidden: []int{}}
	blank := []byte(modelOf(v).text(func(int) string { return "." }))
	for cell, sign := range strings.ReplaceAll(v, "/", "") {
		if sign == '?' {
			m.hidden = append(m.hidden, cell)
		}
	}
	for bits := range 1 << len(m.hidden) {
		b := slices.Clone(blank)
		for i, cell := range m.hidden {
			if bits>>i&1 == 1 {
				b[m.place(cell)] = '*'
			}
		}
		if isSeenIn(v, modelOf(string(b)).picture()) {
			m.fit = append(m.fit, string(b))
		}
	}
	slices.Sort(m.fit)
	return m
}

// isSeenIn tells whether a view is a picture, of the same size, of which cells are hidden.
func isSeenIn(v string, picture string) bool {
	for i := range v {
		if v[i] != '?' && v[i] != picture[i] {
			return false
		}
	}
	return true
}

// place is where the sign of a cell stands in the text.
func (m viewModel) place(cell int) int { return cell + cell/m.width }

func (m viewModel) cells() int { return len(strings.ReplaceAll(m.text, "/", "")) }

// with are the boards that fit and have so many mines, or any number of them if -1 is told.
func (m viewModel) with(mines int) []string {
	boards := []string{}
	for _, b := range m.fit {
		if mines == -1 || strings.Count(b, "*") == mines {
			boards = append(boards, b)
		}
	}
	return boards
}

// mineIn tells in how many boards a cell has a mine.
func (m viewModel) mineIn(boards []string, cell int) int {
	count := 0
	for _, b := range boards {
		if b[m.place(cell)] == '*' {
			count++
		}
	}
	return count
}

// hiddenWith are the hidden cells for which a function of how many boards have a mine there holds.
func (m viewModel) hiddenWith(boards []string, holds func(count int) bool) []int {
	cells := []int{}
	for _, cell := range m.hidden {
		if holds(m.mineIn(boards, cell)) {
			cells = append(cells, cell)
		}
	}
	return cells
}

// safest are the hidden cells than which no other one has a mine in fewer boards.
func (m viewModel) safest(boards []string) []int {
	return m.hiddenWith(boards, func(count int) bool {
		return len(m.hiddenWith(boards, func(other int) bool { return other < count })) == 0
	})
}

// chances are told by fractions of the library, which are in lowest terms.
func (m viewModel) chances(boards []string) [][]int64 {
	out := [][]int64{}
	for _, cell := range m.hidden {
		share := big.NewRat(int64(m.mineIn(boards, cell)), int64(len(boards)))
		out = append(out, []int64{share.Num().Int64(), share.Denom().Int64()})
	}
	return out
}

// mean is the mean number of mines of all boards that fit.
func (m viewModel) mean() (int64, int64) {
	share := big.NewRat(int64(strings.Count(strings.Join(m.fit, ""), "*")), int64(len(m.fit)))
	return share.Num().Int64(), share.Denom().Int64()
}

// numbersFor tells the numbers of a cell where it has no mine.
func (m viewModel) numbersFor(boards []string, cell int) [][]int {
	out := [][]int{}
	for number := range 9 {
		count := 0
		for _, b := range boards {
			if b[m.place(cell)] == '.' && modelOf(b).number(cell) == number {
				count++
			}
		}
		if count > 0 {
			out = append(out, []int{number, count})
		}
	}
	return out
}

// withSign is the view with another sign in a cell.
func (m viewModel) withSign(cell int, sign string) string {
	at := m.place(cell)
	return m.text[:at] + sign + m.text[at+1:]
}

// viewOf is the picture of a board in which its mines and some other cells are hidden.
func viewOf(b string, hidden []int) string {
	m := modelOf(b)
	return m.text(func(cell int) string {
		if m.hasMine(cell) || slices.Contains(hidden, cell) {
			return "?"
		}
		return string(rune('0' + m.number(cell)))
	})
}

// eachView calls a function with all views of up to four cells and small numbers, and with some of every size, of up to seven hidden cells, that a board fits or none does.
func eachView(call func(v string)) {
	eachSmall([]string{"?", "0", "1", "2", "3"}, call)
	next := nextNumbers()
	for width := 1; width <= 8; width++ {
		for height := 1; height <= 8; height++ {
			for range 6 {
				var mines uint64
				for range next(5) {
					mines |= 1 << next(width*height)
				}
				v := viewOf(textOfBits(width, height, mines), []int{next(width * height), next(width * height), next(width * height)})
				call(v)
				call(withOtherDigit(v, next(len(v)), next(9)))
			}
		}
	}
}

// withOtherDigit is the view with a digit in an open cell that the place, or one behind it, tells.
func withOtherDigit(v string, place int, number int) string {
	for place < len(v) && (v[place] == '?' || v[place] == '/') {
		place++
	}
	if place == len(v) {
		return v
	}
	return v[:place] + string(rune('0'+number)) + v[place+1:]
}

// eachSmall calls a function with all rows and columns of up to four signs out of some, and all squares of four.
func eachSmall(signs []string, call func(v string)) {
	eachText(signs, 4, func(s string) {
		if s != "" {
			call(s)
			call(strings.Join(strings.Split(s, ""), "/"))
		}
		if len(s) == 4 {
			call(s[:2] + "/" + s[2:])
		}
	})
}
