package tests

import (
	"fmt"
	"regexp"
	"slices"
	"strings"
	"testing"

	"loop.example/g01294/impl"
)

func clue(kind int, a int, b int) impl.Clue { return impl.Clue{Kind: kind, A: a, B: b} }

// puzzleOf is the puzzle that a text tells. Its numbers may be any.
func puzzleOf(s string) impl.Puzzle {
	size, clues, _ := strings.Cut(s, ":")
	var p impl.Puzzle
	fmt.Sscanf(size, "%dx%d", &p.Width, &p.Height)
	for part := range strings.FieldsFuncSeq(clues, func(sign rune) bool { return sign == ',' }) {
		var c impl.Clue
		fmt.Sscanf(part, "%d.%d.%d", &c.Kind, &c.A, &c.B)
		p.Clues = append(p.Clues, c)
	}
	return p
}

// textOfPuzzle tells a puzzle. Its numbers may be any.
func textOfPuzzle(p impl.Puzzle) string {
	var clues []string
	for _, c := range p.Clues {
		clues = append(clues, fmt.Sprintf("%d.%d.%d", c.Kind, c.A, c.B))
	}
	return fmt.Sprintf("%dx%d:%s", p.Width, p.Height, strings.Join(clues, ","))
}

// isFit tells whether a board fits a clue.
func isFit(c impl.Clue, b textModel) bool {
	rows := strings.Split(b.text, "/")
	column := ""
	for _, row := range rows {
		column += row[c.A%len(row):][:1]
	}
	switch c.Kind {
	case 0:
		return (strings.Join(rows, "")[c.A] == '*') == (c.B == 1)
	case 1:
		return b.mines == c.A
	case 2:
		return b.numbers[c.A:][:1] == fmt.Sprint(c.B)
	case 3:
		return strings.Count(rows[c.A], "*") == c.B
	case 4:
		return strings.Count(column, "*") == c.B
	}
	return b.sum == c.A
}

// cluesOf lists all clues of a size.
func cluesOf(width int, height int) []impl.Clue {
	cells := width * height
	var clues []impl.Clue
	add := func(kind int, countA int, countB int) {
		for a := range countA {
			for b := range countB {
				clues = append(clues, clue(kind, a, b))
			}
		}
	}
	add(0, cells, 2)
	add(1, cells+1, 1)
	add(2, cells, 9)
	add(3, height, 9)
	add(4, width, 9)
	add(5, 101, 1)
	return clues
}

// isHidden tells whether there are hidden boards of a size.
func isHidden(width int, height int) bool {
	return slices.ContainsFunc(sizeModels(), func(m sizeModel) bool {
		return m.width == width && m.height == height && m.cells() <= 9
	})
}

// eachHiddenSize calls a function with all sizes of hidden boards, beside each other.
func eachHiddenSize(t *testing.T, call func(t *testing.T, m sizeModel)) {
	t.Helper()
	eachSmallSize(t, func(t *testing.T, m sizeModel) {
		if isHidden(m.width, m.height) {
			call(t, m)
		}
	})
}

// puzzleModel is a puzzle told by which clues each board does not fit: one bit for each of them.
type puzzleModel struct {
	puzzle impl.Puzzle
	boards []textModel
	missed []uint
}

func puzzleModelOf(size sizeModel, clues []impl.Clue) puzzleModel {
	m := puzzleModel{
		puzzle: impl.Puzzle{Width: size.width, Height: size.height, Clues: clues},
		boards: size.boards,
		missed: make([]uint, len(size.boards)),
	}
	for i, b := range m.boards {
		for k, c := range clues {
			if !isFit(c, b) {
				m.missed[i] |= 1 << k
			}
		}
	}
	return m
}

func (m puzzleModel) text() string { return textOfPuzzle(m.puzzle) }

// without are the texts of the boards that fit all clues but some, in order.
func (m puzzleModel) without(some uint) []string {
	boards := []string{}
	for i, b := range m.boards {
		if m.missed[i]&^some == 0 {
			boards = append(boards, b.text)
		}
	}
	return boards
}

func (m puzzleModel) solutions() []string { return m.without(0) }

// sure tells the signs that all solutions have.
func (m puzzleModel) sure() string {
	boards := m.solutions()
	sure := boards[0]
	for i := range sure {
		if slices.ContainsFunc(boards, func(b string) bool { return b[i] != boards[0][i] }) {
			sure = sure[:i] + "?" + sure[i+1:]
		}
	}
	return sure
}

func (m puzzleModel) needless() []int {
	out := []int{}
	for k := range m.puzzle.Clues {
		if !slices.Contains(m.missed, 1<<k) {
			out = append(out, k)
		}
	}
	return out
}

func (m puzzleModel) left() []int {
	out := []int{}
	for count := range len(m.puzzle.Clues) + 1 {
		out = append(out, len(m.without(^uint(0)<<count)))
	}
	return out
}

// best is the first clue for which no other one leaves fewer boards alone: -1 if there are no clues.
func (m puzzleModel) best() int {
	best, fewest := -1, len(m.boards)+1
	for k := range m.puzzle.Clues {
		if count := len(m.without(^(uint(1) << k))); count < fewest {
			best, fewest = k, count
		}
	}
	return best
}

// harder are the clues that stay.
func (m puzzleModel) harder() []impl.Clue {
	var taken uint
	stay := []impl.Clue{}
	for k, c := range m.puzzle.Clues {
		if len(m.without(taken|1<<k)) == 1 {
			taken |= 1 << k
		} else {
			stay = append(stay, c)
		}
	}
	return stay
}

// madeClues are clues that are drawn for a board.
func madeClues(b string, count int, seed int) []impl.Clue {
	m, drawn := textModelOf(b), 0
	next := func(below int) int {
		seed = (149*seed + 2719) % 10007
		drawn = seed % below
		return drawn
	}
	width, height := modelOf(b).width, modelOf(b).height
	clues := []impl.Clue{}
	for range count {
		kind := next(6)
		if places := []int{width * height, 0, width * height, height, width, 0}[kind]; places > 0 {
			next(places)
		}
		fits := func(c impl.Clue) bool {
			isThere := kind == 1 || kind == 5 || c.A == drawn
			return c.Kind == kind && isThere && isFit(c, m)
		}
		all := cluesOf(width, height)
		clues = append(clues, all[slices.IndexFunc(all, fits)])
	}
	return clues
}

var puzzleShape = regexp.MustCompile(`^(0|[1-9][0-9]?)x(0|[1-9][0-9]?):((0|[1-9])\.(0|[1-9][0-9]{0,2})\.(0|[1-9])(,(0|[1-9])\.(0|[1-9][0-9]{0,2})\.(0|[1-9]))*)?$`)

// isTextOfPuzzle tells whether a text is that of a puzzle.
func isTextOfPuzzle(s string) bool {
	if !puzzleShape.MatchString(s) {
		return false
	}
	p := puzzleOf(s)
	all := cluesOf(p.Width, p.Height)
	isOther := func(c impl.Clue) bool { return !slices.Contains(all, c) }
	return isHidden(p.Width, p.Height) && len(p.Clues) <= 8 && !slices.ContainsFunc(p.Clues, isOther)
}

// eachPuzzle calls a function with some puzzles of every size: without clues, with each clue alone, with clues that a board fits, with any clues, and with the same clues again and again.
func eachPuzzle(t *testing.T, call func(t *testing.T, m puzzleModel)) {
	t.Helper()
	eachHiddenSize(t, func(t *testing.T, size sizeModel) {
		call(t, puzzleModelOf(size, nil))
		all := cluesOf(size.width, size.height)
		for k := range all {
			call(t, puzzleModelOf(size, all[k:k+1]))
		}
		next := nextNumbers()
		for count := 2; count <= 8; count++ {
			for range 6 {
				b := size.boards[next(len(size.boards))]
				fit := slices.DeleteFunc(slices.Clone(all), func(c impl.Clue) bool { return !isFit(c, b) })
				call(t, puzzleModelOf(size, someClues(fit, count, next)))
				call(t, puzzleModelOf(size, someClues(all, count, next)))
				call(t, puzzleModelOf(size, someClues(someClues(fit, 3, next), count, next)))
			}
		}
	})
}

// someClues draws so many clues out of others.
func someClues(from []impl.Clue, count int, next func(below int) int) []impl.Clue {
	var clues []impl.Clue
	for range count {
		clues = append(clues, from[next(len(from))])
	}
	return clues
}
