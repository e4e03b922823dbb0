package tests

import (
	"fmt"
	"slices"
	"testing"

	"loop.example/g01294/impl"
)

// TestPromise9SolutionsFit: solutions fit all clues, and no other hidden boards do.
func TestPromise9SolutionsFit(t *testing.T) {
	eachPuzzle(t, func(t *testing.T, m puzzleModel) {
		p := m.puzzle
		solutions, ok := impl.Solutions(p)
		fitting := []string{}
		for _, b := range m.boards {
			if fitsAll(t, p.Clues, b.text) {
				fitting = append(fitting, b.text)
			}
		}
		same(t, "Solutions "+m.text(), solutions, ok, fitting)
		count, ok := impl.CountSolutions(p)
		same(t, "CountSolutions "+m.text(), count, ok, len(fitting))
		solved, ok := impl.IsSolved(p)
		same(t, "IsSolved "+m.text(), solved, ok, len(fitting) == 1)
		first, ok := impl.FirstSolution(p)
		if len(fitting) > 0 {
			same(t, "FirstSolution "+m.text(), first, ok, fitting[0])
		} else if ok {
			t.Fatalf("FirstSolution %s is %s, and there is none", m.text(), first)
		}
	})
}

// fitsAll tells whether a board fits all of some clues, as the program tells it.
func fitsAll(t *testing.T, clues []impl.Clue, b string) bool {
	t.Helper()
	all := true
	for _, c := range clues {
		fits, ok := impl.DoesFit(c, b)
		if !ok {
			t.Fatalf("DoesFit %v %s fails", c, b)
		}
		all = all && fits
	}
	return all
}

// TestAllCluesAndAllBoards: each clue is fitted by the boards of which it tells what chapter 1 tells.
func TestAllCluesAndAllBoards(t *testing.T) {
	eachHiddenSize(t, func(t *testing.T, size sizeModel) {
		for _, c := range cluesOf(size.width, size.height) {
			if !impl.IsClue(size.width, size.height, c) {
				t.Fatalf("IsClue %d %d %v is false", size.width, size.height, c)
			}
			for _, b := range size.boards {
				fits, ok := impl.DoesFit(c, b.text)
				same(t, fmt.Sprint("DoesFit ", c, " ", b.text), fits, ok, isFit(c, b))
			}
		}
		for _, b := range size.boards {
			checkByChapter1(t, size, b.text)
		}
	})
}

// checkByChapter1: a board fits the clues with what chapter 1 tells of it.
func checkByChapter1(t *testing.T, size sizeModel, b string) {
	t.Helper()
	count, _ := impl.CountMines(b)
	sum, _ := impl.SumOfNumbers(b)
	mines, _ := impl.MinesOf(b)
	clues := []impl.Clue{clue(1, count, 0), clue(5, sum, 0)}
	for cell := range size.cells() {
		number, _ := impl.NumberAt(b, cell)
		hasMine := 0
		if slices.Contains(mines, cell) {
			hasMine = 1
		}
		clues = append(clues, clue(2, cell, number), clue(0, cell, hasMine))
	}
	if !fitsAll(t, clues, b) {
		t.Fatalf("%s does not fit %v", b, clues)
	}
}

// TestIsClueOfAnyNumbers holds it against the list of all clues.
func TestIsClueOfAnyNumbers(t *testing.T) {
	numbers := append(oddInts(), -100, 2, 3, 4, 5, 6, 10, 99, 100, 101, 256, 512)
	eachHiddenSize(t, func(t *testing.T, size sizeModel) {
		all := cluesOf(size.width, size.height)
		for _, kind := range numbers {
			for _, a := range numbers {
				for _, b := range numbers {
					c := clue(kind, a, b)
					if got, want := impl.IsClue(size.width, size.height, c), slices.Contains(all, c); got != want {
						t.Fatalf("IsClue %d %d %v: %v, want %v", size.width, size.height, c, got, want)
					}
				}
			}
		}
	})
}

// TestPuzzlesAndModel holds all that is told of puzzles against the model.
func TestPuzzlesAndModel(t *testing.T) {
	eachPuzzle(t, func(t *testing.T, m puzzleModel) {
		p, clues := m.puzzle, len(m.puzzle.Clues)
		if !impl.IsPuzzle(p) {
			t.Fatalf("IsPuzzle %s is false", m.text())
		}
		solutions, ok := impl.Solutions(p)
		same(t, "Solutions "+m.text(), solutions, ok, m.solutions())
		needless, ok := impl.NeedlessClues(p)
		same(t, "NeedlessClues "+m.text(), needless, ok, m.needless())
		left, ok := impl.LeftByClues(p)
		same(t, "LeftByClues "+m.text(), left, ok, m.left())
		sure, ok := impl.SureCells(p)
		same(t, "SureCells succeeds "+m.text(), ok, true, len(m.solutions()) > 0)
		if ok {
			same(t, "SureCells "+m.text(), sure, ok, m.sure())
		}
		best, ok := impl.BestClue(p)
		same(t, "BestClue succeeds "+m.text(), ok, true, clues > 0)
		if ok {
			same(t, "BestClue "+m.text(), best, ok, m.best())
		}
		harder, ok := impl.HarderPuzzle(p)
		same(t, "HarderPuzzle succeeds "+m.text(), ok, true, len(m.solutions()) == 1)
		if ok {
			same(t, "HarderPuzzle "+m.text(), harder, ok, impl.Puzzle{Width: p.Width, Height: p.Height, Clues: m.harder()})
		}
	})
}

// TestPromise9Harder: harder puzzles are solved by the same board, have no other clues, in no other order, and none that is needless.
func TestPromise9Harder(t *testing.T) {
	eachPuzzle(t, func(t *testing.T, m puzzleModel) {
		harder, ok := impl.HarderPuzzle(m.puzzle)
		if !ok {
			return
		}
		name := textOfPuzzle(harder) + ", harder than " + m.text()
		solved, ok := impl.IsSolved(harder)
		same(t, "IsSolved "+name, solved, ok, true)
		board, _ := impl.FirstSolution(m.puzzle)
		again, ok := impl.FirstSolution(harder)
		same(t, "FirstSolution "+name, again, ok, board)
		needless, ok := impl.NeedlessClues(harder)
		same(t, "NeedlessClues "+name, needless, ok, "[]")
		hardest, ok := impl.HarderPuzzle(harder)
		same(t, "HarderPuzzle "+name, hardest, ok, harder)
		rest := m.puzzle.Clues
		for _, c := range harder.Clues {
			at := slices.Index(rest, c)
			if at < 0 {
				t.Fatalf("%s has another clue %v, or another order", name, c)
			}
			rest = rest[at+1:]
		}
	})
}

// TestPromise9CluesMoreAndFewer: with a clue more, those solutions are left that fit it; without the clue there are those from before.
func TestPromise9CluesMoreAndFewer(t *testing.T) {
	eachPuzzle(t, func(t *testing.T, m puzzleModel) {
		p, count := m.puzzle, len(m.puzzle.Clues)
		for k := range count {
			fewer, ok := impl.DropClue(p, k)
			want := impl.Puzzle{Width: p.Width, Height: p.Height, Clues: slices.Delete(slices.Clone(p.Clues), k, k+1)}
			same(t, fmt.Sprintf("DropClue %s %d", m.text(), k), fewer, ok, want)
			before, ok := impl.Solutions(fewer)
			same(t, "Solutions "+textOfPuzzle(fewer), before, ok, m.without(1<<k))
			back, ok := impl.AddClue(fewer, p.Clues[k])
			want.Clues = append(want.Clues, p.Clues[k])
			same(t, fmt.Sprintf("AddClue %s %v", textOfPuzzle(fewer), p.Clues[k]), back, ok, want)
			after, ok := impl.Solutions(back)
			same(t, "Solutions "+textOfPuzzle(back), after, ok, m.solutions())
		}
	})
}

// TestPromise9Made: a puzzle that is made has clues that the board fits, as they are drawn.
func TestPromise9Made(t *testing.T) {
	eachHiddenSize(t, func(t *testing.T, size sizeModel) {
		for i, b := range size.boards {
			seed := (i*1237 + size.width*77 + size.height) % 10000
			all := madeClues(b.text, 8, seed)
			for clues := range 9 {
				p, ok := impl.MakePuzzle(b.text, clues, seed)
				want := impl.Puzzle{Width: size.width, Height: size.height, Clues: all[:clues]}
				same(t, fmt.Sprintf("MakePuzzle %s %d %d", b.text, clues, seed), p, ok, want)
				if !impl.IsPuzzle(p) || !fitsAll(t, p.Clues, b.text) {
					t.Fatalf("%s does not fit %s", b.text, textOfPuzzle(p))
				}
			}
		}
	})
}

// TestMadeWithEachSeed: all seeds draw the clues of the model.
func TestMadeWithEachSeed(t *testing.T) {
	b := "*../**./..*"
	for seed := range 10000 {
		p, ok := impl.MakePuzzle(b, seed%9, seed)
		same(t, fmt.Sprintf("MakePuzzle %s %d %d", b, seed%9, seed), p.Clues, ok, madeClues(b, seed%9, seed))
	}
}

// TestPuzzleTexts: each puzzle is told by a text, and found by it again.
func TestPuzzleTexts(t *testing.T) {
	eachPuzzle(t, func(t *testing.T, m puzzleModel) {
		text, ok := impl.PuzzleText(m.puzzle)
		same(t, "PuzzleText", text, ok, m.text())
		p, ok := impl.ParsePuzzle(text)
		same(t, "ParsePuzzle "+text, p, ok, m.puzzle)
	})
}

// TestTextsOfPuzzlesAndOthers: a text is taken if, and only if, it is that of a puzzle.
func TestTextsOfPuzzlesAndOthers(t *testing.T) {
	signs := []string{"0", "1", "2", "9", "x", ":", ".", ",", "-", "+", " ", ""}
	for _, s := range []string{"3x1:2.1.1,1.1.0", "1x1:", "2x4:5.100.0,3.3.8,0.7.1", "8x1:0.0.0,0.0.0,0.0.0,0.0.0,0.0.0,0.0.0,0.0.0,0.0.0", "3x3:4.2.8"} {
		for i := range len(s) + 1 {
			for _, sign := range signs {
				checkText(t, s[:i]+sign+s[i:])
				if i < len(s) {
					checkText(t, s[:i]+sign+s[i+1:])
				}
			}
		}
	}
	eachText([]string{"0", "1", "x", ":", ".", ",", "-"}, 6, func(s string) {
		checkText(t, s)
		checkText(t, "1x1:"+s)
	})
}

func checkText(t *testing.T, s string) {
	t.Helper()
	p, ok := impl.ParsePuzzle(s)
	if want := isTextOfPuzzle(s); ok != want {
		t.Fatalf("ParsePuzzle %q: %v %v, want %v", s, p, ok, want)
	}
	if ok {
		text, ok := impl.PuzzleText(p)
		same(t, "PuzzleText of ParsePuzzle", text, ok, s)
	} else if p.Width != 0 || p.Height != 0 || len(p.Clues) != 0 {
		t.Fatalf("ParsePuzzle %q fails with %v", s, p)
	}
}
