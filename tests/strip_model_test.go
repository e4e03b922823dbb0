package tests

import (
	"slices"
	"strings"
	"sync"
)

// seenList is a list of mines, and what is seen of it with all free cells open.
type seenList struct {
	mines   string
	picture string
}

// listsOf are all lists of mines of so many cells, up to ten, in order.
func listsOf(cells int) []seenList { return allLists()[cells] }

var allLists = sync.OnceValue(func() [][]seenList {
	lists := [][]seenList{nil}
	for cells := 1; cells <= 10; cells++ {
		var texts []string
		for bits := range uint64(1) << cells {
			texts = append(texts, textOfBits(cells, 1, bits))
		}
		slices.Sort(texts)
		var seen []seenList
		for _, b := range texts {
			seen = append(seen, seenList{mines: b, picture: modelOf(b).picture()})
		}
		lists = append(lists, seen)
	}
	return lists
})

// stripModel is a strip of up to ten cells, told by all lists of mines that fit it, in order.
type stripModel struct {
	text string
	fit  []string
}

func stripModelOf(s string) stripModel {
	m := stripModel{text: s}
	for _, list := range listsOf(len(s)) {
		if isSeenIn(s, list.picture) {
			m.fit = append(m.fit, list.mines)
		}
	}
	return m
}

// byMines counts the lists by how many signs for mines they have.
func (m stripModel) byMines() []int {
	counts := make([]int, len(m.text)+1)
	for _, b := range m.fit {
		counts[strings.Count(b, "*")]++
	}
	return counts
}

// with are the lists that have a mine in a cell.
func (m stripModel) with(cell int) []string {
	return slices.DeleteFunc(slices.Clone(m.fit), func(b string) bool { return b[cell] != '*' })
}

// sure has the sign of each cell that all lists share.
func (m stripModel) sure() string {
	signs := strings.Split(m.fit[0], "")
	for _, b := range m.fit {
		for cell := range signs {
			if signs[cell] != b[cell:cell+1] {
				signs[cell] = "?"
			}
		}
	}
	return strings.Join(signs, "")
}

// longestFree tries all parts of the strip, the longest first.
func (m stripModel) longestFree() int {
	for size := len(m.text); size > 0; size-- {
		for from := 0; from+size <= len(m.text); from++ {
			free := strings.Repeat(".", size)
			if !slices.ContainsFunc(m.fit, func(b string) bool { return b[from:from+size] != free }) {
				return size
			}
		}
	}
	return 0
}

// backwards is a text told from its end.
func backwards(s string) string {
	signs := strings.Split(s, "")
	slices.Reverse(signs)
	return strings.Join(signs, "")
}

// hiddenIn is the strip of a list of mines in which the cells of a list are unknown.
func hiddenIn(b string, hidden []int) string {
	signs := strings.Split(strings.ReplaceAll(modelOf(b).picture(), "*", "?"), "")
	for _, cell := range hidden {
		signs[cell] = "?"
	}
	return strings.Join(signs, "")
}

// longStrip counts the lists that fit a strip of any length, with the ways on from what is known so far told but once.
type longStrip struct {
	text  string
	known map[[4]int]int
}

func longStripOf(s string) longStrip { return longStrip{text: s, known: map[[4]int]int{}} }

// tells reports whether a cell may have a number.
func (l longStrip) tells(cell int, number int) bool {
	return l.text[cell] == '?' || int(l.text[cell]-'0') == number
}

// from tells in how many ways so many mines can be in the cells behind one that has a mine, 1, or none, 0, as the cell before it.
func (l longStrip) from(cell int, before int, here int, mines int) int {
	if here == 1 && l.text[cell] != '?' || mines < 0 {
		return 0
	}
	if cell == len(l.text)-1 {
		if mines == 0 && l.tells(cell, before) {
			return 1
		}
		return 0
	}
	key := [4]int{cell, before, here, mines}
	if count, ok := l.known[key]; ok {
		return count
	}
	count := 0
	for next := range 2 {
		if l.tells(cell, before+next) {
			count += l.from(cell+1, here, next, mines-next)
		}
	}
	l.known[key] = count
	return count
}

// byMines counts the lists by their mines.
func (l longStrip) byMines() []int {
	var counts []int
	for mines := range len(l.text) + 1 {
		counts = append(counts, l.from(0, 0, 0, mines)+l.from(0, 0, 1, mines-1))
	}
	return counts
}

// rank tells how many lists come before one that fits: those that have a mine in a cell where it has none first.
func (l longStrip) rank(b string) int {
	rank := 0
	for cell := range b {
		if b[cell] == '*' || cell > 0 && l.text[cell-1] != '?' {
			continue
		}
		before := 0
		if cell > 0 {
			before = strings.Count(b[cell-1:cell], "*")
		}
		for mines := range len(b) {
			rank += l.from(cell, before, 1, mines)
		}
	}
	return rank
}

// eachStrip calls a function with all strips of up to five cells, and with some of six to ten, that a list of mines fits or none does.
func eachStrip(call func(s string)) {
	eachText([]string{"?", "0", "1", "2"}, 5, func(s string) {
		if s != "" {
			call(s)
		}
	})
	next := nextNumbers()
	call(strings.Repeat("?", 8))
	for cells := 6; cells <= 10; cells++ {
		for range 40 {
			s := hiddenIn(someList(cells, next), someCells(cells, next))
			call(s)
			place := next(cells)
			call(s[:place] + string("?012"[next(4)]) + s[place+1:])
		}
	}
}

// eachLongStrip calls a function with some strips of 30 to 40 cells, and a list of mines that fits each.
func eachLongStrip(call func(s string, b string)) {
	next := nextNumbers()
	for cells := 30; cells <= 40; cells++ {
		for range 8 {
			b := someList(cells, next)
			call(hiddenIn(b, someCells(cells, next)), b)
			call(hiddenIn(b, upTo(cells)), b)
		}
	}
}

// someList is a list of few mines or many.
func someList(cells int, next func(below int) int) string {
	most := 2 + next(4)
	return model{width: cells, height: 1}.text(func(int) string {
		if next(most) == 0 {
			return "*"
		}
		return "."
	})
}

// someCells are few cells or many, increasing.
func someCells(cells int, next func(below int) int) []int {
	most := 1 + next(4)
	return slices.DeleteFunc(upTo(cells), func(int) bool { return next(most) > 0 })
}
