package impl

import (
	"slices"
	"strings"
)

const MaxSide = 8

const freeSign byte = '.'
const mineSign byte = '*'
const rowBreak = "/"

// A longer text is no board, so it need not be cut into rows at all.
const maxBoardText = MaxSide*(MaxSide+1) - 1

// spot is where a cell is: its row from above and its column from the left.
type spot struct {
	row    int
	column int
}

// grid is a board, or another text of such rows, that was checked: the signs of its cells, row by row.
// The grid of a text that is none has no cells. In one that is joined, the first and last rows, and columns, are beside each other.
type grid struct {
	width    int
	height   int
	signs    []byte
	isJoined bool
}

// readBoard returns the grid of a board.
func readBoard(b string) (grid, bool) {
	return readGrid(b, isBoardSign)
}

// readGrid returns the grid of rows as a board has them, newly made so that it may be changed. It fails if a cell has another sign than there may be.
func readGrid(s string, isSign func(sign byte) bool) (grid, bool) {
	if len(s) > maxBoardText {
		return grid{}, false
	}
	rows := strings.Split(s, rowBreak)
	g := grid{width: len(rows[0]), height: len(rows)}
	if !isSize(g.width, g.height) {
		return grid{}, false
	}
	for _, row := range rows {
		if len(row) != g.width {
			return grid{}, false
		}
		g.signs = append(g.signs, row...)
	}
	for _, sign := range g.signs {
		if !isSign(sign) {
			return grid{}, false
		}
	}
	return g, true
}

// readBoardWith returns the grid of a board that has a cell.
func readBoardWith(b string, cell int) (grid, bool) {
	g, ok := readBoard(b)
	if !ok || !g.hasCell(cell) {
		return grid{}, false
	}
	return g, true
}

// hasCell reports whether there is a cell.
func (g grid) hasCell(cell int) bool {
	return cell >= 0 && cell < len(g.signs)
}

// isSize reports whether boards may have a width and a height.
func isSize(width int, height int) bool {
	return width >= 1 && width <= MaxSide && height >= 1 && height <= MaxSide
}

// isBoardSign reports whether a sign is that of a free cell or a mine.
func isBoardSign(sign byte) bool {
	return sign == freeSign || sign == mineSign
}

// freeGrid returns a grid without mines.
func freeGrid(width int, height int) grid {
	g := grid{width: width, height: height}
	for range width * height {
		g.signs = append(g.signs, freeSign)
	}
	return g
}

// text returns the rows of a grid with breaks between them.
func (g grid) text() string {
	var rows []string
	for row := range g.height {
		rows = append(rows, g.rowText(row))
	}
	return strings.Join(rows, rowBreak)
}

// rowText returns the signs of a row.
func (g grid) rowText(row int) string {
	return string(g.signs[row*g.width : (row+1)*g.width])
}

// spotOf returns where a cell is.
func (g grid) spotOf(cell int) spot {
	return spot{row: cell / g.width, column: cell % g.width}
}

// cellAt returns the cell that is at a spot.
func (g grid) cellAt(s spot) int {
	return s.row*g.width + s.column
}

// isMine reports whether a cell has a mine.
func (g grid) isMine(cell int) bool {
	return g.signs[cell] == mineSign
}

// mines returns the cells with mines, increasing.
func (g grid) mines() []int {
	var mines []int
	for cell := range g.signs {
		if g.isMine(cell) {
			mines = append(mines, cell)
		}
	}
	return mines
}

// neighbours returns the neighbours of a cell, increasing.
func (g grid) neighbours(cell int) []int {
	at := g.spotOf(cell)
	var near []int
	for other := range g.signs {
		if g.areNeighbours(g.spotOf(other), at) {
			near = append(near, other)
		}
	}
	return near
}

// number returns how many neighbours of a cell have a mine.
func (g grid) number(cell int) int {
	count := 0
	for _, other := range g.neighbours(cell) {
		if g.isMine(other) {
			count++
		}
	}
	return count
}

// numbers returns the numbers of all cells, one after the other.
func (g grid) numbers() []int {
	var numbers []int
	for cell := range g.signs {
		numbers = append(numbers, g.number(cell))
	}
	return numbers
}

// picture returns the board with the digit of its number in each free cell.
func (g grid) picture() string {
	picture := freeGrid(g.width, g.height)
	for cell, sign := range g.signs {
		picture.signs[cell] = sign
		if !g.isMine(cell) {
			picture.signs[cell] = digit(g.number(cell))
		}
	}
	return picture.text()
}

// sum returns the sum of the numbers of all free cells.
func (g grid) sum() int {
	sum := 0
	for cell := range g.signs {
		if !g.isMine(cell) {
			sum += g.number(cell)
		}
	}
	return sum
}

// areNeighbours reports whether two spots are different and touch, if only at a corner.
func (g grid) areNeighbours(a spot, b spot) bool {
	return a != b && g.doTouch(a.row, b.row, g.height) && g.doTouch(a.column, b.column, g.width)
}

// doTouch reports whether two out of so many rows, or columns, are the same, or are beside each other.
func (g grid) doTouch(a int, b int, count int) bool {
	apart := distance(a, b)
	return apart <= 1 || g.isJoined && apart == count-1
}

// distance returns how far two rows, or columns, are apart.
func distance(a int, b int) int {
	return max(a-b, b-a)
}

// IsBoard reports whether a text is a board.
func IsBoard(b string) bool {
	_, ok := readBoard(b)
	return ok
}

// SizeOf returns how many cells a row has, and how many rows there are.
func SizeOf(b string) (int, int, bool) {
	g, ok := readBoard(b)
	return g.width, g.height, ok
}

// CountMines returns how many mines there are.
func CountMines(b string) (int, bool) {
	g, ok := readBoard(b)
	return len(g.mines()), ok
}

// MinesOf returns the cells with mines, increasing.
func MinesOf(b string) ([]int, bool) {
	g, ok := readBoard(b)
	return g.mines(), ok
}

// BoardOfMines returns the board of a width and a height, each in 1..MaxSide, with mines in a strictly increasing list of cells.
func BoardOfMines(width int, height int, mines []int) (string, bool) {
	// The size comes first: a product of sizes that are none may overflow.
	if !isSize(width, height) || !areIncreasingCells(mines, width*height) {
		return "", false
	}
	g := freeGrid(width, height)
	for _, cell := range mines {
		g.signs[cell] = mineSign
	}
	return g.text(), true
}

// areIncreasingCells reports whether a list is strictly increasing and has only cells out of so many.
func areIncreasingCells(cells []int, count int) bool {
	last := -1
	for _, cell := range cells {
		if cell <= last || cell >= count {
			return false
		}
		last = cell
	}
	return true
}

// NeighboursOf returns the neighbours of a cell, increasing.
func NeighboursOf(b string, cell int) ([]int, bool) {
	g, ok := readBoardWith(b, cell)
	if !ok {
		return nil, false
	}
	return g.neighbours(cell), true
}

// NumberAt returns the number of a cell.
func NumberAt(b string, cell int) (int, bool) {
	g, ok := readBoardWith(b, cell)
	if !ok {
		return 0, false
	}
	return g.number(cell), true
}

// NumbersOf returns the numbers of all cells, one after the other.
func NumbersOf(b string) ([]int, bool) {
	g, ok := readBoard(b)
	return g.numbers(), ok
}

// PictureOf returns the board with the digit of its number in each free cell.
func PictureOf(b string) (string, bool) {
	g, ok := readBoard(b)
	return g.picture(), ok
}

// digit returns the sign of a number in 0..9.
func digit(number int) byte {
	return '0' + byte(number)
}

// SumOfNumbers returns the sum of the numbers of all free cells.
func SumOfNumbers(b string) (int, bool) {
	g, ok := readBoard(b)
	return g.sum(), ok
}

// PutMine returns the board with a mine in a free cell. It fails for others.
func PutMine(b string, cell int) (string, bool) {
	return changeSign(b, cell, freeSign, mineSign)
}

// TakeMine returns the board without the mine of a cell. It fails if there is none.
func TakeMine(b string, cell int) (string, bool) {
	return changeSign(b, cell, mineSign, freeSign)
}

// changeSign returns the board with another sign in a cell. It fails if the cell has not the sign before.
func changeSign(b string, cell int, before byte, after byte) (string, bool) {
	g, ok := readBoardWith(b, cell)
	if !ok || g.signs[cell] != before {
		return "", false
	}
	g.signs[cell] = after
	return g.text(), true
}

// OtherBoard returns the board with mines in its free cells, and no others.
func OtherBoard(b string) (string, bool) {
	g, ok := readBoard(b)
	for cell, sign := range g.signs {
		g.signs[cell] = otherSign(sign)
	}
	return g.text(), ok
}

// otherSign returns a mine for a free cell, and a free cell for a mine.
func otherSign(sign byte) byte {
	if sign == mineSign {
		return freeSign
	}
	return mineSign
}

// TurnBoard returns the board turned by a quarter to the right: its first row becomes the last column, from above.
func TurnBoard(b string) (string, bool) {
	g, ok := readBoard(b)
	turned := freeGrid(g.height, g.width)
	for cell, sign := range g.signs {
		from := g.spotOf(cell)
		turned.signs[turned.cellAt(spot{row: from.column, column: g.height - 1 - from.row})] = sign
	}
	return turned.text(), ok
}

// MirrorBoard returns it with each row told backwards.
func MirrorBoard(b string) (string, bool) {
	g, ok := readBoard(b)
	mirrored := freeGrid(g.width, g.height)
	for cell, sign := range g.signs {
		from := g.spotOf(cell)
		mirrored.signs[mirrored.cellAt(spot{row: from.row, column: g.width - 1 - from.column})] = sign
	}
	return mirrored.text(), ok
}

// BesideBoard returns the board whose rows are those of a, and behind each of them that of b. It fails if they have not as many rows, or if a row becomes too long.
func BesideBoard(a string, b string) (string, bool) {
	left, leftOK := readBoard(a)
	right, rightOK := readBoard(b)
	if !leftOK || !rightOK || left.height != right.height || !isSize(left.width+right.width, left.height) {
		return "", false
	}
	var rows []string
	for row := range left.height {
		rows = append(rows, left.rowText(row)+right.rowText(row))
	}
	return strings.Join(rows, rowBreak), true
}

// ZerosOf returns the free cells with the number 0, increasing.
func ZerosOf(b string) ([]int, bool) {
	g, ok := readBoard(b)
	return g.cellsWithoutMinesNear(freeSign), ok
}

// LonelyMines returns the mines with no mine as a neighbour, increasing.
func LonelyMines(b string) ([]int, bool) {
	g, ok := readBoard(b)
	return g.cellsWithoutMinesNear(mineSign), ok
}

// cellsWithoutMinesNear returns the cells with a sign and the number 0, increasing.
func (g grid) cellsWithoutMinesNear(sign byte) []int {
	var cells []int
	for cell := range g.signs {
		if g.signs[cell] == sign && g.number(cell) == 0 {
			cells = append(cells, cell)
		}
	}
	return cells
}

// GroupsOfMines returns the mines in groups that hang together by neighbours, each increasing, in the order of their first ones.
func GroupsOfMines(b string) ([][]int, bool) {
	g, ok := readBoard(b)
	return g.groupsOfMines(), ok
}

// groupsOfMines returns the mines in groups that hang together, each increasing, in the order of their first ones.
func (g grid) groupsOfMines() [][]int {
	left := g.mineSpots()
	var groups [][]int
	for _, cell := range g.mines() {
		if left[g.spotOf(cell)] {
			groups = append(groups, g.takeGroup(left, cell))
		}
	}
	return groups
}

// mineSpots returns the spots that have a mine.
func (g grid) mineSpots() map[spot]bool {
	spots := map[spot]bool{}
	for _, cell := range g.mines() {
		spots[g.spotOf(cell)] = true
	}
	return spots
}

// takeGroup takes the group of a mine out of the spots that are left, and returns its cells, increasing.
func (g grid) takeGroup(left map[spot]bool, first int) []int {
	group := []spot{g.spotOf(first)}
	delete(left, group[0])
	for done := 0; done < len(group); done++ {
		group = append(group, g.takeNear(left, group[done])...)
	}
	var cells []int
	for _, s := range group {
		cells = append(cells, g.cellAt(s))
	}
	// The spots came out of a map, and so in any order.
	slices.Sort(cells)
	return cells
}

// takeNear takes the neighbours of a spot out of the spots that are left, and returns them in any order.
func (g grid) takeNear(left map[spot]bool, s spot) []spot {
	var near []spot
	for other := range left {
		if g.areNeighbours(other, s) {
			near = append(near, other)
			delete(left, other)
		}
	}
	return near
}
