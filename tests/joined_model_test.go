package tests

import (
	"fmt"
	"slices"
	"strings"
	"sync"
)

// joinedOf is the model of a board that is joined at its edges.
func joinedOf(b string) model {
	m := modelOf(b)
	m.around = true
	return m
}

// numbers are those of all cells.
func (m model) numbers() []int {
	out := []int{}
	for cell := range m.cells() {
		out = append(out, m.number(cell))
	}
	return out
}

// sum adds up the digits of the picture.
func (m model) sum() int {
	sum := 0
	for _, sign := range m.picture() {
		if sign >= '0' && sign <= '9' {
			sum += int(sign - '0')
		}
	}
	return sum
}

// shiftedText takes each sign of a text of rows from the cell where it was before the shift.
func shiftedText(s string, right int, down int) string {
	rows := strings.Split(s, "/")
	m := model{width: len(rows[0]), height: len(rows)}
	return m.text(func(cell int) string {
		row, column := cell/m.width-down+m.height, cell%m.width-right+m.width
		return rows[row%m.height][column%m.width:][:1]
	})
}

// shiftedTexts are all shifted boards, by right, then by down.
func shiftedTexts(b string) []string {
	m := modelOf(b)
	var texts []string
	for right := range m.width {
		for down := range m.height {
			texts = append(texts, shiftedText(b, right, down))
		}
	}
	return texts
}

// keptShifts are those that change nothing.
func keptShifts(b string) [][]int {
	height := modelOf(b).height
	out := [][]int{}
	for i, text := range shiftedTexts(b) {
		if text == b {
			out = append(out, []int{i / height, i % height})
		}
	}
	return out
}

// countDifferent tells how many texts there are if equal ones count once.
func countDifferent(texts []string) int {
	sorted := slices.Sorted(slices.Values(texts))
	return len(slices.Compact(sorted))
}

// joinedSize is a size told by all boards of it, in order, and by which of them have the same numbers.
type joinedSize struct {
	width  int
	height int
	boards []string
	alike  map[string][]string
}

func joinedSizeOf(width int, height int) joinedSize {
	s := joinedSize{width: width, height: height, alike: map[string][]string{}}
	for bits := range uint64(1) << (width * height) {
		s.boards = append(s.boards, textOfBits(width, height, bits))
	}
	slices.Sort(s.boards)
	for _, b := range s.boards {
		numbers := fmt.Sprint(joinedOf(b).numbers())
		s.alike[numbers] = append(s.alike[numbers], b)
	}
	return s
}

// same are the boards with the numbers of one of them.
func (s joinedSize) same(b string) []string { return s.alike[fmt.Sprint(joinedOf(b).numbers())] }

// even are the boards whose cells all have a number.
func (s joinedSize) even(number int) []string {
	return s.alike[fmt.Sprint(slices.Repeat([]int{number}, s.width*s.height))]
}

// joinedSizes are all sizes of joined boards of at most sixteen cells, as long as a test asks for them.
var joinedSizes = sync.OnceValue(func() []joinedSize {
	sizes := make([]joinedSize, 6)
	var all sync.WaitGroup
	for i, size := range [][2]int{{3, 3}, {3, 4}, {4, 3}, {3, 5}, {5, 3}, {4, 4}} {
		all.Go(func() { sizes[i] = joinedSizeOf(size[0], size[1]) })
	}
	all.Wait()
	return sizes
})

// eachJoined calls a function with all joined boards of three by three, and with some of every size: free, full, with one mine, with many, with few, and those that shifts keep.
func eachJoined(call func(b string)) {
	for bits := range uint64(1) << 9 {
		call(textOfBits(3, 3, bits))
	}
	next := nextNumbers()
	eachJoinedSize(func(width int, height int) {
		call(textOfBits(width, height, 0))
		call(textOfBits(width, height, ^uint64(0)))
		call(textOfBits(width, height, 1<<next(width*height)))
		for range 6 {
			var half, few uint64
			for cell := range width * height {
				half |= uint64(next(2)) << cell
				few |= uint64(next(7)/6) << cell
			}
			call(textOfBits(width, height, half))
			call(textOfBits(width, height, few))
			call(keptBoard(width, height, next))
		}
	})
}

// eachJoinedSize calls a function with all sizes of joined boards.
func eachJoinedSize(call func(width int, height int)) {
	for width := 3; width <= 8; width++ {
		for height := 3; height <= 8; height++ {
			call(width, height)
		}
	}
}

// keptBoard is a board that a shift keeps: for each mine of it there are all those to which the shift moves it, again and again.
func keptBoard(width int, height int, next func(below int) int) string {
	right, down := next(width), next(height)
	var mines uint64
	for range 1 + next(3) {
		row, column := next(height), next(width)
		for range width * height {
			mines |= 1 << (row*width + column)
			row, column = (row+down)%height, (column+right)%width
		}
	}
	return textOfBits(width, height, mines)
}
