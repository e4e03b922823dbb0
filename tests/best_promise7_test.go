package tests

import (
	"fmt"
	"slices"
	"strings"
	"testing"

	"loop.example/g01294/impl"
)

// TestPromise7BoardsWon: best play wins as many boards as told, and just those that are told.
func TestPromise7BoardsWon(t *testing.T) {
	t.Parallel()
	eachPlayed(func(p playModel) {
		call := fmt.Sprintf(" %s %d", p.text, p.mines)
		boards, ok := impl.FittingBoards(p.text, p.mines)
		same(t, "FittingBoards"+call, len(boards), ok, len(p.boards))
		won := []string{}
		for _, b := range boards {
			cells, isWon, ok := impl.PlayBest(p.text, b)
			last := modelOf(b).hasMine(lastOf(cells, 0)) && len(cells) > 0
			same(t, fmt.Sprint("PlayBest ", p.text, " ", b, " opens ", cells, " and wins"), isWon, ok, !last)
			if isWon {
				won = append(won, b)
			}
		}
		wins, ok := impl.WinsFrom(p.text, p.mines)
		same(t, "WinsFrom"+call, wins, ok, len(won))
		all, ok := impl.WonBoards(p.text, p.mines)
		same(t, "WonBoards"+call, all, ok, won)
		if wins < 1 || wins > len(boards) {
			t.Fatalf("WinsFrom%s: %d of %d boards", call, wins, len(boards))
		}
		checkCases(t, []boardCase{{"WinChance" + call, three(impl.WinChance(p.text, p.mines)), toldShare(wins, len(boards))}})
	})
}

// lastOf is the last cell of a list, or another one if there is none.
func lastOf(cells []int, other int) int {
	if len(cells) == 0 {
		return other
	}
	return cells[len(cells)-1]
}

// TestPromise7NoCellWinsMore: a cell wins as many boards as the views behind it, no cell more than best play, and just best cells as many.
func TestPromise7NoCellWinsMore(t *testing.T) {
	t.Parallel()
	eachPlayed(func(p playModel) {
		call := fmt.Sprintf(" %s %d", p.text, p.mines)
		wins, ok := impl.WinsFrom(p.text, p.mines)
		isWon, wonOK := impl.IsWon(p.text, p.mines)
		same(t, "IsWon"+call, isWon, ok && wonOK, len(p.hidden) == p.mines)
		best := []int{}
		for _, cell := range p.hidden {
			by, ok := impl.WinsByCell(p.text, p.mines, cell)
			if isWon {
				same(t, fmt.Sprint("WinsByCell", call, " ", cell), by, ok, 0)
				continue
			}
			same(t, fmt.Sprint("WinsByCell", call, " ", cell), by, ok, winsBehind(t, p, cell))
			if by > wins {
				t.Fatalf("WinsByCell%s %d: %d, more than %d", call, cell, by, wins)
			}
			if by == wins {
				best = append(best, cell)
			}
		}
		cells, ok := impl.BestCells(p.text, p.mines)
		same(t, "BestCells"+call, cells, ok, best)
		if !isWon && len(best) == 0 {
			t.Fatalf("BestCells%s: none, and the view is not won", call)
		}
	})
}

// winsBehind sums up what is won of the views behind a cell, one for each number of chapter 3.
func winsBehind(t *testing.T, p playModel, cell int) int {
	t.Helper()
	numbers, ok := impl.NumbersFor(p.text, p.mines, cell)
	if !ok {
		t.Fatalf("NumbersFor %s %d %d fails", p.text, p.mines, cell)
	}
	sum := 0
	for _, number := range numbers {
		wins, ok := impl.WinsFrom(p.withSign(cell, fmt.Sprint(number[0])), p.mines)
		if !ok || wins > number[1] {
			t.Fatalf("WinsFrom %s %d with %v in %d: %d %v", p.text, p.mines, number, cell, wins, ok)
		}
		sum += wins
	}
	return sum
}

// TestPromise7AllChoices: no way to choose cells by the views alone wins more boards, of all ways that there are, where these are not too many.
func TestPromise7AllChoices(t *testing.T) {
	t.Parallel()
	tried := 0
	eachPlayed(func(p playModel) {
		if len(p.hidden) > 4 && len(p.hidden)-p.mines > 2 {
			return
		}
		wins, ok := impl.WinsFrom(p.text, p.mines)
		same(t, fmt.Sprintf("WinsFrom %s %d", p.text, p.mines), wins, ok, p.mostByChoices(map[string]int{}))
		tried++
	})
	if tried < 1000 {
		t.Errorf("just %d views are tried", tried)
	}
}

// TestPromise7StepByStep: a play opens the first one of the best cells of each view that it comes to, until it is won or has opened a mine.
func TestPromise7StepByStep(t *testing.T) {
	t.Parallel()
	eachPlayed(func(p playModel) {
		for _, b := range p.boards {
			cells, guesses, won := playByViews(t, p.text, p.mines, b.text)
			call := fmt.Sprintf(" %s %s", p.text, b.text)
			checkCases(t, []boardCase{
				{"PlayBest" + call, three(impl.PlayBest(p.text, b.text)), told(cells, won, true)},
				{"GuessesOf" + call, two(impl.GuessesOf(p.text, b.text)), told(guesses, true)},
			})
		}
	})
}

// playByViews plays on a board, asking anew what to do in each view.
func playByViews(t *testing.T, v string, mines int, b string) ([]int, int, bool) {
	t.Helper()
	opened, guesses := []int{}, 0
	for {
		won, wonOK := impl.IsWon(v, mines)
		best, bestOK := impl.BestCells(v, mines)
		guess, ok := impl.MustGuess(v, mines)
		if !wonOK || !bestOK || !ok || won == (len(best) > 0) || won && guess {
			t.Fatalf("%s %d: IsWon %v %v, BestCells %v %v, MustGuess %v %v", v, mines, won, wonOK, best, bestOK, guess, ok)
		}
		if won {
			return opened, guesses, true
		}
		opened = append(opened, best[0])
		if guess {
			guesses++
		}
		if v, ok = impl.OpenCell(v, b, best[0]); !ok {
			return opened, guesses, false
		}
	}
}

// TestPromise7Guesses: one must guess just if the view is not won, and no cell is free for sure; safe cells are opened if their numbers are sure.
func TestPromise7Guesses(t *testing.T) {
	t.Parallel()
	eachPlayed(func(p playModel) {
		call := fmt.Sprintf(" %s %d", p.text, p.mines)
		free, ok := impl.SureFree(p.text, p.mines)
		won, wonOK := impl.IsWon(p.text, p.mines)
		guess, guessOK := impl.MustGuess(p.text, p.mines)
		same(t, "MustGuess"+call, guess, ok && wonOK && guessOK, !won && len(free) == 0)
		best, _ := impl.BestCells(p.text, p.mines)
		want, sure := p.text, true
		for _, cell := range free {
			if !slices.Contains(best, cell) {
				t.Fatalf("BestCells%s: %v, not %d, which is free for sure", call, best, cell)
			}
			numbers, _ := impl.NumbersFor(p.text, p.mines, cell)
			sure = sure && len(numbers) == 1
			at := p.place(cell)
			want = want[:at] + fmt.Sprint(numbers[0][0]) + want[at+1:]
		}
		if !sure {
			want = ""
		}
		checkCases(t, []boardCase{{"OpenSafe" + call, two(impl.OpenSafe(p.text, p.mines)), told(want, sure)}})
	})
}

// TestBestAndModel holds all functions of views against the model.
func TestBestAndModel(t *testing.T) {
	t.Parallel()
	eachPlayed(func(p playModel) {
		v, call := p.text, fmt.Sprintf(" %s %d", p.text, p.mines)
		safe, sure := p.safe()
		checkCases(t, []boardCase{
			{"WinsFrom" + call, two(impl.WinsFrom(v, p.mines)), told(p.wins(), true)},
			{"WinChance" + call, three(impl.WinChance(v, p.mines)), toldShare(p.wins(), len(p.boards))},
			{"BestCells" + call, two(impl.BestCells(v, p.mines)), told(p.best(), true)},
			{"MustGuess" + call, two(impl.MustGuess(v, p.mines)), told(p.mustGuess(), true)},
			{"WonBoards" + call, two(impl.WonBoards(v, p.mines)), told(p.won(), true)},
			{"OpenSafe" + call, two(impl.OpenSafe(v, p.mines)), told(safe, sure)},
			{"IsWon" + call, two(impl.IsWon(v, p.mines)), told(p.isWon(), true)},
		})
		for cell := range p.cells() {
			want := "0 false"
			if slices.Contains(p.hidden, cell) {
				want = told(p.winsBy(cell), true)
			}
			checkCases(t, []boardCase{{fmt.Sprint("WinsByCell", call, " ", cell), two(impl.WinsByCell(v, p.mines, cell)), want}})
		}
		for _, b := range p.boards {
			cells, guesses, won := p.play(b)
			checkCases(t, []boardCase{
				{"PlayBest " + v + " " + b.text, three(impl.PlayBest(v, b.text)), told(cells, won, true)},
				{"GuessesOf " + v + " " + b.text, two(impl.GuessesOf(v, b.text)), told(guesses, true)},
			})
		}
	})
}

// TestViewsThatNoBoardWithSoManyMinesFits: all functions of views fail for them.
func TestViewsThatNoBoardWithSoManyMinesFits(t *testing.T) {
	t.Parallel()
	none := 0
	eachPlayedView(func(v string) {
		m := viewModelOf(v)
		for mines := -1; mines <= 4; mines++ {
			if mines < 0 || mines > 3 || len(m.with(mines)) == 0 {
				checkCases(t, []boardCase{{fmt.Sprint(v, " ", mines), callPlayed(v, mines, firstOf(m.hidden)), playedFail}})
				none++
			}
		}
	})
	if none < 1000 {
		t.Errorf("just %d are tried", none)
	}
}

// TestFirstAndModel: first openings are those of views of which all cells are hidden, and are the same ones for rows and columns.
func TestFirstAndModel(t *testing.T) {
	t.Parallel()
	eachSize(func(width int, height int) {
		if width*height > 8 {
			return
		}
		v := hiddenBoard(width, height)
		for mines := -1; mines <= 5; mines++ {
			call, want := fmt.Sprint(" ", width, " ", height, " ", mines), firstFail
			if mines >= 0 && mines <= min(3, width*height) {
				p := playModelOf(viewModelOf(v), mines)
				want = told(p.best(), true, toldShare(p.wins(), len(p.boards)))
			}
			checkCases(t, []boardCase{
				{"first" + call, callFirst(width, height, mines), want},
				{"the view" + call, told(two(impl.BestCells(v, mines)), three(impl.WinChance(v, mines))), want},
				{"FirstChance turned" + call, three(impl.FirstChance(height, width, mines)), three(impl.FirstChance(width, height, mines))},
			})
			if width == 1 || height == 1 {
				checkCases(t, []boardCase{{"BestFirst turned" + call, two(impl.BestFirst(height, width, mines)), two(impl.BestFirst(width, height, mines))}})
			}
		}
	})
}

// TestPlayedOfTheModel: the views that the other tests try have all that could go wrong among them.
func TestPlayedOfTheModel(t *testing.T) {
	t.Parallel()
	count := map[string]int{}
	eachPlayed(func(p playModel) {
		_, sure := p.safe()
		free := len(p.hiddenWith(p.with(p.mines), func(count int) bool { return count == 0 }))
		for what, is := range map[string]bool{
			"won already":                         p.isWon() && p.mines > 0,
			"won already without mines":           p.isWon() && p.mines == 0,
			"eight hidden cells":                  len(p.hidden) == 8,
			"three mines":                         p.mines == 3,
			"one board fits":                      len(p.boards) == 1 && !p.isWon(),
			"many boards fit":                     len(p.boards) > 8,
			"all of some boards are won":          len(p.boards) > 1 && p.wins() == len(p.boards),
			"some boards are won":                 p.wins() > 1 && p.wins() < len(p.boards),
			"one must guess":                      p.mustGuess(),
			"just some cells are best":            p.mustGuess() && len(p.best()) < len(p.hidden),
			"a safe cell, and a guess later":      !p.mustGuess() && p.wins() < len(p.boards),
			"cells that are not safe are best":    free > 0 && len(p.best()) > free,
			"the best cells are not the safest":   p.mustGuess() && fmt.Sprint(p.best()) != fmt.Sprint(p.safest(p.with(p.mines))),
			"safe cells with different numbers":   !sure,
			"safe cells with the same numbers":    sure && free > 0 && len(p.boards) > 1,
			"more than one row, and some columns": strings.Contains(p.text, "/") && p.width > 1,
		} {
			if is {
				count[what]++
			}
		}
	})
	if len(count) != 16 {
		t.Errorf("there are only %v", count)
	}
	for what, views := range count {
		if views < 10 {
			t.Errorf("%s: in %d views only", what, views)
		}
	}
}
