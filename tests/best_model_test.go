package tests

import (
	"slices"
	"strings"
)

// playModel is a view that is played on with so many mines, told by texts: what is seen is a view, and what fits are pictures.
type playModel struct {
	viewModel
	mines  int
	boards []textModel
	known  map[string]int
}

func playModelOf(m viewModel, mines int) playModel {
	p := playModel{viewModel: m, mines: mines, known: map[string]int{}}
	for _, b := range m.with(mines) {
		p.boards = append(p.boards, textModelOf(b))
	}
	return p
}

// seen is the play behind some cells, from which it is a view of its own.
func (p playModel) seen(v string) playModel {
	next := playModel{viewModel: viewModel{text: v, width: p.width}, mines: p.mines, known: p.known}
	for _, cell := range p.hidden {
		if v[p.place(cell)] == '?' {
			next.hidden = append(next.hidden, cell)
		}
	}
	for _, b := range p.boards {
		if isSeenIn(v, b.picture) {
			next.boards = append(next.boards, b)
		}
	}
	return next
}

func (p playModel) isWon() bool { return len(p.hidden) == p.mines }

// signs are the different signs that a cell has in pictures of boards that fit, with how many of them have each.
func (p playModel) signs(cell int) map[string]int {
	count := map[string]int{}
	for _, b := range p.boards {
		count[b.seen()[cell:cell+1]]++
	}
	return count
}

// wins tells of how many boards it is known that best play wins them.
func (p playModel) wins() int {
	if p.isWon() {
		return 1
	}
	if count, ok := p.known[p.text]; ok {
		return count
	}
	most := 0
	for _, cell := range p.hidden {
		most = max(most, p.winsBy(cell))
	}
	p.known[p.text] = most
	return most
}

// winsBy sums up over the numbers that a cell may have.
func (p playModel) winsBy(cell int) int {
	if p.isWon() {
		return 0
	}
	wins := 0
	for sign := range p.signs(cell) {
		if sign != "*" {
			wins += p.seen(p.withSign(cell, sign)).wins()
		}
	}
	return wins
}

func (p playModel) best() []int {
	cells := []int{}
	for _, cell := range p.hidden {
		if !p.isWon() && p.winsBy(cell) == p.wins() {
			cells = append(cells, cell)
		}
	}
	return cells
}

func (p playModel) mustGuess() bool {
	for _, cell := range p.hidden {
		if p.signs(cell)["*"] == 0 {
			return false
		}
	}
	return !p.isWon()
}

// play tells the cells that are opened on a board, one after the other, how many of them by a guess, and whether the board is won.
func (p playModel) play(b textModel) ([]int, int, bool) {
	cells, guesses := []int{}, 0
	for !p.isWon() {
		if p.mustGuess() {
			guesses++
		}
		cell := p.best()[0]
		cells = append(cells, cell)
		sign := b.seen()[cell : cell+1]
		if sign == "*" {
			return cells, guesses, false
		}
		p = p.seen(p.withSign(cell, sign))
	}
	return cells, guesses, true
}

// won are the boards that are won, in order.
func (p playModel) won() []string {
	boards := []string{}
	for _, b := range p.boards {
		if _, _, won := p.play(b); won {
			boards = append(boards, b.text)
		}
	}
	return boards
}

// safe is the view with all cells open that have a single sign which is no mine; it fails if a cell is free in all boards, but has more signs.
func (p playModel) safe() (string, bool) {
	v := p.text
	for _, cell := range p.hidden {
		signs := p.signs(cell)
		if signs["*"] > 0 {
			continue
		}
		if len(signs) > 1 {
			return "", false
		}
		for sign := range signs {
			at := p.place(cell)
			v = v[:at] + sign + v[at+1:]
		}
	}
	return v, true
}

// mostByChoices is the greatest number of boards that are won if a cell is chosen for each view that may be come to, all ways to choose them being tried.
func (p playModel) mostByChoices(chosen map[string]int) int {
	won := 0
	for _, b := range p.boards {
		v := p.text
		for strings.Count(v, "?") > p.mines {
			cell, ok := chosen[v]
			if !ok {
				return p.mostByChoicesAt(v, chosen)
			}
			at := p.place(cell)
			if b.picture[at] == '*' {
				won--
				break
			}
			v = v[:at] + b.picture[at:at+1] + v[at+1:]
		}
		won++
	}
	return won
}

// mostByChoicesAt tries all hidden cells of a view for which none is chosen.
func (p playModel) mostByChoicesAt(v string, chosen map[string]int) int {
	most := 0
	for _, cell := range p.hidden {
		if v[p.place(cell)] == '?' {
			chosen[v] = cell
			most = max(most, p.mostByChoices(chosen))
		}
	}
	delete(chosen, v)
	return most
}

// eachPlayed calls a function with views and numbers of mines that at least one board fits: all of up to four cells and small numbers, all of which all cells are hidden, and some of every size, of up to eight hidden cells.
func eachPlayed(call func(p playModel)) {
	eachPlayedView(func(v string) {
		m := viewModelOf(v)
		for mines := range 4 {
			if p := playModelOf(m, mines); len(p.boards) > 0 {
				call(p)
			}
		}
	})
}

// eachPlayedView calls a function with the views of eachPlayed, and with others of their kind that no board fits.
func eachPlayedView(call func(v string)) {
	eachSmall([]string{"?", "0", "1", "2"}, call)
	next := nextNumbers()
	for width := 1; width <= 8; width++ {
		for height := 1; height <= 8; height++ {
			if width*height <= 8 {
				call(hiddenBoard(width, height))
			}
			for range 12 {
				v := somePlayed(width, height, next)
				call(v)
				call(withOtherDigit(v, next(len(v)), next(4)))
			}
		}
	}
}

// hiddenBoard is the view of a size of which all cells are hidden.
func hiddenBoard(width int, height int) string {
	return strings.ReplaceAll(textOfBits(width, height, 0), ".", "?")
}

// somePlayed is a view with up to three mines, and up to eight hidden cells: those with mines, and others that are near each other.
func somePlayed(width int, height int, next func(below int) int) string {
	var mines uint64
	first := next(width * height)
	near := append(modelOf(textOfBits(width, height, 0)).near(first), first)
	for range next(4) {
		mines |= 1 << near[next(len(near))]
	}
	b := textOfBits(width, height, mines)
	room := 8 - strings.Count(b, "*")
	hidden := slices.DeleteFunc(near, func(cell int) bool { return mines>>cell&1 == 1 || next(4) == 0 })
	return viewOf(b, hidden[:min(room, len(hidden))])
}
