package tests

import (
	"fmt"
	"math/big"
	"regexp"
	"slices"
	"strconv"
	"strings"
	"sync"

	"loop.example/g01294/impl"
)

// deskModel is a desk whose lines are told apart by patterns. What is asked of it is told by the models of views that are seen and played on, made when they are needed.
type deskModel struct {
	board  string
	view   string
	seen   func() viewModel
	played func() playModel
}

func deskModelOf(board string, view string) deskModel {
	seen := sync.OnceValue(func() viewModel { return viewModelOf(view) })
	played := sync.OnceValue(func() playModel { return playModelOf(seen(), strings.Count(board, "*")) })
	return deskModel{board: board, view: view, seen: seen, played: played}
}

func (d deskModel) desk() impl.Desk { return impl.Desk{Board: d.board, View: d.view} }

const wordOfNumber = `(0|[1-9][0-9]{0,5})`

var (
	boardLine = regexp.MustCompile(`^board (` + boardPattern() + `)$`)
	freshLine = regexp.MustCompile(`^fresh ` + wordOfNumber + ` ` + wordOfNumber + `$`)
	cellLine  = regexp.MustCompile(`^(open|hide|put|take) ` + wordOfNumber + `$`)
	viewLine  = regexp.MustCompile(`^(fits|any|sure|free|safest)$`)
	playLine  = regexp.MustCompile(`^(chance|best|play)$`)
	boardSign = regexp.MustCompile(`[.*]`)
)

// boardPattern is that of the boards of each width.
func boardPattern() string {
	var widths []string
	for width := 1; width <= 8; width++ {
		widths = append(widths, fmt.Sprintf(`(?:[.*]{%d}/){0,7}[.*]{%d}`, width, width))
	}
	return strings.Join(widths, "|")
}

// line tells the desk behind a line, and its reply.
func (d deskModel) line(s string) (deskModel, string) {
	if m := boardLine.FindStringSubmatch(s); m != nil {
		return d.allHidden(m[1])
	}
	if m := freshLine.FindStringSubmatch(s); m != nil {
		return d.allHidden(freeText(m[1], m[2]))
	}
	if m := cellLine.FindStringSubmatch(s); m != nil {
		cell, _ := strconv.Atoi(m[2])
		return d.withCell(m[1], cell)
	}
	rows := strings.Split(d.board, "/")
	switch s {
	case "turn":
		return d.allHidden(turnedText(rows))
	case "mirror":
		for i, row := range rows {
			rows[i] = backwards(row)
		}
		return d.allHidden(strings.Join(rows, "/"))
	}
	return d, d.told(s)
}

// freeText is the board without mines of two sides, or no text if it is too wide or too high.
func freeText(width string, height string) string {
	if len(width) > 1 || len(height) > 1 || width == "9" || height == "9" || width == "0" || height == "0" {
		return ""
	}
	return textOfBits(int(width[0]-'0'), int(height[0]-'0'), 0)
}

// allHidden is the desk with another board, if there is one, and if not too many cells are hidden then.
func (d deskModel) allHidden(board string) (deskModel, string) {
	view := boardSign.ReplaceAllString(board, "?")
	if board == "" || strings.Count(view, "?") > 14 {
		return d, "no"
	}
	return deskModelOf(board, view), view
}

// withCell is the desk in whose texts the sign of a cell is changed.
func (d deskModel) withCell(word string, cell int) (deskModel, string) {
	at := cell + cell/modelOf(d.board).width
	if at >= len(d.board) {
		return d, "no"
	}
	with := func(s string, sign string) string { return s[:at] + sign + s[at+1:] }
	isMine, isHidden := d.board[at] == '*', d.view[at] == '?'
	view := ""
	switch {
	case word == "put" && !isMine:
		return d.allHidden(with(d.board, "*"))
	case word == "take" && isMine:
		return d.allHidden(with(d.board, "."))
	case word == "open" && isHidden && !isMine:
		view = with(d.view, modelOf(d.board).picture()[at:at+1])
	case word == "hide" && !isHidden && strings.Count(d.view, "?") < 14:
		view = with(d.view, "?")
	default:
		return d, "no"
	}
	return deskModelOf(d.board, view), view
}

// told is the reply to a word that asks for something.
func (d deskModel) told(word string) string {
	m := modelOf(d.board)
	switch {
	case word == "show":
		return d.view
	case word == "truth":
		return d.board
	case word == "picture":
		return m.picture()
	case word == "sum":
		return fmt.Sprint(m.sum())
	case word == "mines":
		return toldList(m.pick(m.hasMine))
	case word == "zeros":
		return toldList(m.pick(m.isZero))
	case viewLine.MatchString(word):
		return d.toldOfView(word)
	case playLine.MatchString(word):
		return d.toldOfPlay(word)
	}
	return "what"
}

func (d deskModel) toldOfView(word string) string {
	m := d.seen()
	boards := m.with(strings.Count(d.board, "*"))
	switch word {
	case "fits":
		return fmt.Sprint(len(boards))
	case "any":
		return fmt.Sprint(len(m.fit))
	case "sure":
		return toldList(m.hiddenWith(boards, func(count int) bool { return count == len(boards) }))
	case "free":
		return toldList(m.hiddenWith(boards, func(count int) bool { return count == 0 }))
	}
	return toldList(m.safest(boards))
}

func (d deskModel) toldOfPlay(word string) string {
	if strings.Count(d.view, "?") > 8 || strings.Count(d.board, "*") > 3 {
		return "no"
	}
	p := d.played()
	switch word {
	case "chance":
		return big.NewRat(int64(p.wins()), int64(len(p.boards))).String()
	case "best":
		return toldList(p.best())
	}
	cells, _, won := p.play(textModelOf(d.board))
	if won {
		return toldList(cells)
	}
	return toldList(cells) + "!"
}

// toldList is a list as replies tell it.
func toldList(list []int) string {
	if len(list) == 0 {
		return "-"
	}
	return strings.ReplaceAll(strings.Trim(fmt.Sprint(list), "[]"), " ", ",")
}

// askWords are the lines that ask for something, in the order of the document.
func askWords() []string {
	return strings.Fields("show truth picture sum mines zeros fits any sure free safest chance best play")
}

// eachDesk calls a function with desks: all of up to four cells, some of five to eight cells that are all hidden, and some of every size, of up to ten hidden cells.
func eachDesk(call func(d deskModel)) {
	eachSmall([]string{".", "*"}, func(b string) { eachOpen(b, call) })
	next := nextNumbers()
	eachSize(func(width int, height int) {
		for range 3 {
			call(someDesk(width, height, next))
		}
		if cells := width * height; cells > 4 && cells <= 8 {
			for range 6 {
				b := textOfBits(width, height, 1<<next(cells)|1<<next(cells)|1<<next(cells))
				call(deskModelOf(b, boardSign.ReplaceAllString(b, "?")))
			}
			b := textOfBits(width, height, 1<<cells-1)
			call(deskModelOf(b, boardSign.ReplaceAllString(b, "?")))
		}
	})
}

// eachOpen calls a function with the desks of a board, each set of its free cells being hidden.
func eachOpen(b string, call func(d deskModel)) {
	m := modelOf(b)
	free := m.pick(m.isFree)
	for bits := range 1 << len(free) {
		hidden := slices.Clone(free)
		for i := len(free) - 1; i >= 0; i-- {
			if bits>>i&1 == 0 {
				hidden = slices.Delete(hidden, i, i+1)
			}
		}
		call(deskModelOf(b, viewOf(b, hidden)))
	}
}

// someDesk has up to five mines, which may be near each other, and some cells that are hidden beside them, up to ten in all.
func someDesk(width int, height int, next func(below int) int) deskModel {
	var mines uint64
	first := next(width * height)
	near := append(modelOf(textOfBits(width, height, 0)).near(first), first, next(width*height))
	for range next(6) {
		mines |= 1 << near[next(len(near))]
	}
	b := textOfBits(width, height, mines)
	var hidden []int
	if next(4) == 0 {
		hidden = near
	}
	for range next(8) {
		hidden = append(hidden, near[next(len(near))])
	}
	return deskModelOf(b, viewOf(b, hidden))
}
