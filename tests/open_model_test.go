package tests

import (
	"fmt"
	"slices"
)

// isZero tells whether a cell is free and has the number 0.
func (m model) isZero(cell int) bool { return !m.hasMine(cell) && m.number(cell) == 0 }

// isFree tells whether a cell has no mine.
func (m model) isFree(cell int) bool { return !m.hasMine(cell) }

// zeroGroups gives each zero the least name that a way over zeros leads to.
func (m model) zeroGroups() [][]int {
	zero, name := make([]bool, m.cells()), make([]int, m.cells())
	for cell := range name {
		zero[cell], name[cell] = m.isZero(cell), cell
	}
	for changed := true; changed; {
		changed = false
		for cell := range name {
			for _, other := range m.near(cell) {
				if zero[cell] && zero[other] && name[other] < name[cell] {
					name[cell] = name[other]
					changed = true
				}
			}
		}
	}
	out := [][]int{}
	for first := range name {
		if zero[first] && name[first] == first {
			out = append(out, m.pick(func(cell int) bool { return zero[cell] && name[cell] == first }))
		}
	}
	return out
}

// openings are groups of zeros with all that is beside one of them.
func (m model) openings() [][]int {
	out := [][]int{}
	for _, group := range m.zeroGroups() {
		out = append(out, m.pick(func(cell int) bool {
			return slices.Contains(group, cell) || slices.ContainsFunc(m.near(cell), func(other int) bool { return slices.Contains(group, other) })
		}))
	}
	return out
}

// opening is a board of which the model told all openings.
type opening struct {
	model
	groups   [][]int
	openings [][]int
}

func openingOf(b string) opening { return openingIn(modelOf(b)) }

func openingIn(m model) opening {
	return opening{model: m, groups: m.zeroGroups(), openings: m.openings()}
}

// fewest tells how many clicks open all free cells.
func (o opening) fewest() int { return len(o.alone()) + len(o.groups) }

// with are the indices of the openings that a cell is in.
func (o opening) with(cell int) []int {
	out := []int{}
	for i, cells := range o.openings {
		if slices.Contains(cells, cell) {
			out = append(out, i)
		}
	}
	return out
}

// alone are the free cells in no opening.
func (o opening) alone() []int {
	return o.pick(func(cell int) bool { return o.isFree(cell) && len(o.with(cell)) == 0 })
}

// opened are the cells that a click opens.
func (o opening) opened(cell int) []int {
	if o.isZero(cell) {
		return o.openings[o.with(cell)[0]]
	}
	return []int{cell}
}

// after are the cells that are open behind clicks.
func (o opening) after(clicks []int) []int {
	var out []int
	for _, click := range clicks {
		out = append(out, o.opened(click)...)
	}
	slices.Sort(out)
	return slices.Compact(out)
}

// needless are the indices of the clicks whose cells others before have opened.
func (o opening) needless(clicks []int) []int {
	out := []int{}
	for i, click := range clicks {
		if slices.Contains(o.after(clicks[:i]), click) {
			out = append(out, i)
		}
	}
	return out
}

// seen tells the rows with the numbers of open cells.
func (o opening) seen(open []int) string {
	return o.text(func(cell int) string {
		if slices.Contains(open, cell) {
			return fmt.Sprint(o.number(cell))
		}
		return "?"
	})
}

// someClicks are lists of clicks on a board: none, each cell, all of them from both ends, and some that come again.
func (o opening) someClicks() [][]int {
	free := o.pick(o.isFree)
	back := slices.Clone(free)
	slices.Reverse(back)
	lists := [][]int{{}, free, back}
	z := len(free)*131 + 7
	for length := range 6 {
		var list []int
		for range length {
			if len(free) > 0 {
				z = (z*149 + 2719) % 10007
				list = append(list, free[z%len(free)])
			}
		}
		lists = append(lists, list, append(slices.Clone(list), list...))
	}
	return lists
}
