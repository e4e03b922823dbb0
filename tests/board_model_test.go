package tests

import (
	"fmt"
	"slices"
	"strings"
	"testing"
)

// model is a board told in another way than the program does, so that the two can be held against each other.
// If it goes around, a way over an edge leads to the other side.
type model struct {
	width  int
	height int
	mine   [][]bool
	around bool
}

func modelOf(b string) model {
	m := model{}
	for _, row := range strings.Split(b, "/") {
		var mines []bool
		for _, sign := range row {
			mines = append(mines, sign == '*')
		}
		m.mine = append(m.mine, mines)
		m.width = len(mines)
	}
	m.height = len(m.mine)
	return m
}

func (m model) cells() int { return m.width * m.height }

func (m model) hasMine(cell int) bool { return m.mine[cell/m.width][cell%m.width] }

// near goes the eight ways from a cell, in the order of the cells there.
func (m model) near(cell int) []int {
	ways := [8][2]int{{-1, -1}, {-1, 0}, {-1, 1}, {0, -1}, {0, 1}, {1, -1}, {1, 0}, {1, 1}}
	out := []int{}
	for _, way := range ways {
		row, column := cell/m.width+way[0], cell%m.width+way[1]
		if m.around {
			row, column = (row+m.height)%m.height, (column+m.width)%m.width
		}
		if row >= 0 && row < m.height && column >= 0 && column < m.width {
			out = append(out, row*m.width+column)
		}
	}
	slices.Sort(out)
	return out
}

func (m model) number(cell int) int {
	n := 0
	for _, other := range m.near(cell) {
		if m.hasMine(other) {
			n++
		}
	}
	return n
}

// text tells the board with the sign that a function gives to each cell.
func (m model) text(sign func(cell int) string) string {
	var out strings.Builder
	for cell := range m.cells() {
		if cell > 0 && cell%m.width == 0 {
			out.WriteString("/")
		}
		out.WriteString(sign(cell))
	}
	return out.String()
}

func (m model) picture() string {
	return m.text(func(cell int) string {
		if m.hasMine(cell) {
			return "*"
		}
		return fmt.Sprint(m.number(cell))
	})
}

// pick returns the cells for which a function holds, increasing.
func (m model) pick(holds func(cell int) bool) []int {
	out := []int{}
	for cell := range m.cells() {
		if holds(cell) {
			out = append(out, cell)
		}
	}
	return out
}

// groups gives each mine the least name that a way over mines leads to.
func (m model) groups() [][]int {
	name := make([]int, m.cells())
	for cell := range name {
		name[cell] = cell
	}
	for changed := true; changed; {
		changed = false
		for cell := range name {
			for _, other := range m.near(cell) {
				if m.hasMine(cell) && m.hasMine(other) && name[other] < name[cell] {
					name[cell] = name[other]
					changed = true
				}
			}
		}
	}
	out := [][]int{}
	for first := range name {
		group := m.pick(func(cell int) bool { return m.hasMine(cell) && name[cell] == first })
		if len(group) > 0 {
			out = append(out, group)
		}
	}
	return out
}

// textOfBits is the board with a mine in each cell whose bit is set.
func textOfBits(width int, height int, bits uint64) string {
	return model{width: width, height: height}.text(func(cell int) string {
		if bits>>cell&1 == 1 {
			return "*"
		}
		return "."
	})
}

// eachBoard calls a function with all boards of up to nine cells, and with some of every size.
func eachBoard(call func(b string)) {
	z := uint64(1)
	for width := 1; width <= 8; width++ {
		for height := 1; height <= 8; height++ {
			if width*height <= 9 {
				for bits := range uint64(1) << (width * height) {
					call(textOfBits(width, height, bits))
				}
				continue
			}
			call(textOfBits(width, height, 0))
			call(textOfBits(width, height, ^uint64(0)))
			for range 10 {
				z = z*6364136223846793005 + 1442695040888963407
				few := z ^ z>>29
				call(textOfBits(width, height, few))
				call(textOfBits(width, height, few&(few>>7)&(few>>13)))
			}
		}
	}
}

// nextNumbers returns a function that tells numbers below others, the same ones each time.
func nextNumbers() func(below int) int {
	z := 1
	return func(below int) int {
		z = (z*149 + 2719) % 10007
		return z % below
	}
}

// eachText calls a function with all texts of up to so many signs out of some.
func eachText(signs []string, most int, call func(s string)) {
	texts := []string{""}
	for range most + 1 {
		var longer []string
		for _, s := range texts {
			call(s)
			for _, sign := range signs {
				longer = append(longer, s+sign)
			}
		}
		texts = longer
	}
}

// same fails the test unless what a call returned is told as what is wanted, and its last result is true.
func same(t *testing.T, call string, got any, ok bool, want any) {
	t.Helper()
	if !ok {
		t.Fatalf("%s fails, want %v", call, want)
	}
	if fmt.Sprint(got) != fmt.Sprint(want) {
		t.Fatalf("%s is %v, want %v", call, got, want)
	}
}
