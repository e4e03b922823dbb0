package tests

import (
	"slices"
	"strings"
)

// notesModel are notes told by lists of cells; the mines of its model are those that are noted.
type notesModel struct {
	model
	v     string
	signs string
}

func notesModelOf(v string) notesModel {
	return notesModel{model: modelOf(v), v: v, signs: strings.ReplaceAll(v, "/", "")}
}

func (m notesModel) isUnknown(cell int) bool { return m.signs[cell] == '?' }

func (m notesModel) isOpen(cell int) bool { return strings.Contains("012345678", m.signs[cell:cell+1]) }

// unknownNear are the unknown cells among those beside a cell.
func (m notesModel) unknownNear(cell int) []int {
	return m.pick(func(other int) bool { return m.isUnknown(other) && slices.Contains(m.near(cell), other) })
}

// rest is the digit of an open cell less the mines noted beside it.
func (m notesModel) rest(cell int) int {
	return strings.Index("012345678", m.signs[cell:cell+1]) - m.number(cell)
}

func (m notesModel) isSound() bool {
	return len(m.pick(func(cell int) bool {
		return m.isOpen(cell) && (m.rest(cell) < 0 || m.rest(cell) > len(m.unknownNear(cell)))
	})) == 0
}

// found is what a rule finds.
type found struct {
	mines []int
	free  []int
}

func (f found) isNothing() bool { return len(f.mines)+len(f.free) == 0 }

// told tells it as the functions of the program do.
func (f found) told() string {
	return told(append([]int{}, f.mines...), append([]int{}, f.free...), true)
}

func (m notesModel) single(cell int) found {
	near := m.unknownNear(cell)
	switch m.rest(cell) {
	case 0:
		return found{free: near}
	case len(near):
		return found{mines: near}
	}
	return found{}
}

func (m notesModel) pair(a int, b int) found {
	others := m.unknownNear(b)
	for _, cell := range m.unknownNear(a) {
		at := slices.Index(others, cell)
		if at == -1 {
			return found{}
		}
		others = slices.Delete(others, at, at+1)
	}
	if m.rest(a) == m.rest(b) {
		return found{free: others}
	}
	if m.rest(b) == m.rest(a)+len(others) {
		return found{mines: others}
	}
	return found{}
}

// singles are the open cells that find something alone.
func (m notesModel) singles() []int {
	return m.pick(func(cell int) bool { return m.isOpen(cell) && !m.single(cell).isNothing() })
}

// pairs are the pairs that find something, in order.
func (m notesModel) pairs() [][2]int {
	var out [][2]int
	open := m.pick(m.isOpen)
	for _, a := range open {
		for _, b := range open {
			if a != b && !m.pair(a, b).isNothing() {
				out = append(out, [2]int{a, b})
			}
		}
	}
	return out
}

// noted are the notes with a sign in some cells.
func (m notesModel) noted(cells []int, sign string) string {
	return m.text(func(cell int) string {
		if slices.Contains(cells, cell) {
			return sign
		}
		return m.signs[cell : cell+1]
	})
}

// step is what stands behind a step, or the notes themselves if nothing is found.
func (m notesModel) step(pairs bool) string {
	var f found
	if singles := m.singles(); len(singles) > 0 {
		f = m.single(singles[0])
	} else if all := m.pairs(); pairs && len(all) > 0 {
		f = m.pair(all[0][0], all[0][1])
	}
	return notesModelOf(m.noted(f.mines, "*")).noted(f.free, ".")
}

// find goes on behind a step with what stands there.
func (m notesModel) find(pairs bool) (string, int, bool) {
	if !m.isSound() {
		return "", 0, false
	}
	next := m.step(pairs)
	if next == m.v {
		return m.v, 0, true
	}
	end, steps, ok := notesModelOf(next).find(pairs)
	if !ok {
		return "", 0, false
	}
	return end, steps + 1, true
}

// agreesWith holds notes against the text of a board of the same size, and open cells against its picture.
func (m notesModel) agreesWith(b string) bool {
	picture := modelOf(b).picture()
	for i, sign := range m.v {
		switch {
		case sign == '*' || sign == '.':
			if b[i] != m.v[i] {
				return false
			}
		case sign != '?' && picture[i] != m.v[i]:
			return false
		}
	}
	return true
}

// boards are all boards that agree, found by mines in unknown cells.
func (m notesModel) boards() []string {
	var out []string
	unknown := m.pick(m.isUnknown)
	for bits := range 1 << len(unknown) {
		b := m.text(func(cell int) string {
			at := slices.Index(unknown, cell)
			if at >= 0 && bits>>at&1 == 1 || m.signs[cell] == '*' {
				return "*"
			}
			return "."
		})
		if m.agreesWith(b) {
			out = append(out, b)
		}
	}
	return out
}

// eachNotes calls a function with all notes of up to four cells and small numbers, with unknown cells on one side or both of a row of open ones, and with some of every size, of up to nine unknown cells, that a board agrees with or none does.
func eachNotes(call func(v string)) {
	eachSmall([]string{"?", "*", ".", "0", "1", "2"}, call)
	eachText([]string{"1", "2", "3"}, 5, func(s string) {
		if len(s) > 2 {
			call(strings.Repeat("?", len(s)) + "/" + s)
		}
		if len(s) == 4 {
			call("????/" + s + "/????")
		}
	})
	next := nextNumbers()
	for width := 1; width <= 8; width++ {
		for height := 1; height <= 8; height++ {
			for range 6 {
				v := someNotes(width, height, next)
				call(v)
				call(withOtherNote(v, next(len(v)), next(9)))
			}
		}
	}
}

// someNotes are notes that a board of some mines agrees with.
func someNotes(width int, height int, next func(below int) int) string {
	var mines uint64
	for range 1 + next(width*height/3+1) {
		mines |= 1 << next(width*height)
	}
	m := modelOf(textOfBits(width, height, mines))
	picture := strings.ReplaceAll(m.picture(), "/", "")
	unknown := 9
	return m.text(func(cell int) string {
		if unknown > 0 && next(2+width*height/8) == 0 {
			unknown--
			return "?"
		}
		if !m.hasMine(cell) && next(5) == 0 {
			return "."
		}
		return picture[cell : cell+1]
	})
}

// withOtherNote is the notes with a digit in the cell that a place tells, if it is open.
func withOtherNote(v string, place int, number int) string {
	if strings.Contains("?*./", v[place:place+1]) {
		return v
	}
	return v[:place] + string(rune('0'+number)) + v[place+1:]
}
