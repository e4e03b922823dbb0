package tests

import (
	"fmt"
	"slices"
	"testing"

	"loop.example/g01294/impl"
)

// callChapter9 calls every function of chapter 9, and tells what they return.
func callChapter9(p impl.Puzzle, c impl.Clue, text string, x int, y int) string {
	return told(
		callPuzzle(p), impl.IsClue(x, y, c), two(impl.DoesFit(c, text)), two(impl.DropClue(p, x)), two(impl.AddClue(p, c)),
		two(impl.MakePuzzle(text, x, y)), two(impl.ParsePuzzle(text)))
}

// somePuzzles are puzzles, and others that are none.
func somePuzzles() []impl.Puzzle {
	puzzles := []impl.Puzzle{{}}
	for _, text := range []string{
		"1x1:", "3x1:2.1.1,1.1.0", "3x1:2.1.1,1.1.0,0.0.1", "2x2:5.4.0", "3x3:1.2.0,3.0.1,4.2.0,5.10.0,0.8.0,2.4.2", "3x1:1.0.0,1.1.0,1.2.0",
		"4x2:0.0.1,3.1.1,5.9.0,4.3.0,1.3.0,2.6.1,2.5.3,0.1.1", "1x8:4.0.1,2.3.1,2.5.0,0.4.0", "3x1:1.3.0,1.3.0",
	} {
		puzzles = append(puzzles, puzzleOf(text))
	}
	for k, p := range noPuzzles() {
		if k%9 == 0 {
			puzzles = append(puzzles, p)
		}
	}
	return puzzles
}

// TestPromise11AllArgumentsToPuzzles: no function panics, and each returns the same again.
func TestPromise11AllArgumentsToPuzzles(t *testing.T) {
	texts := append(noBoards(), "*../.../..*", "*", "........", "3x1:2.1.1,1.1.0", "1x1:", "8x1:0.7.1", "3x1:2.1", full("*"))
	clues := append(noClues(), clue(0, 0, 1), clue(1, 1, 0), clue(2, 0, 1), clue(3, 0, 1), clue(4, 0, 1), clue(5, 1, 0))
	ints := append(oddInts(), 2, 3, 4, 5)
	for i, p := range somePuzzles() {
		for k, text := range texts {
			c, x, y := clues[(i*7+k*11)%len(clues)], ints[(i+k)%len(ints)], ints[(i*3+k*7)%len(ints)]
			first := callChapter9(p, c, text, x, y)
			if k%4 == 0 && callChapter9(p, c, text, x, y) != first {
				t.Fatalf("chapter 9 returns others for %.100s %v %.100q %d %d", textOfPuzzle(p), c, text, x, y)
			}
		}
	}
	for _, c := range clues {
		for _, x := range ints {
			for _, y := range ints {
				impl.IsClue(x, y, c)
			}
		}
	}
	for _, x := range ints {
		for _, y := range ints {
			impl.MakePuzzle("*../.../..*", x, y)
		}
	}
}

// TestPromise11CluesOfPuzzles: neither the clues of a puzzle nor what lies in the room behind them is changed, read or handed out.
func TestPromise11CluesOfPuzzles(t *testing.T) {
	for _, p := range somePuzzles() {
		count := len(p.Clues)
		// Clues that could be told as well follow in the room behind those of the puzzle.
		room := append(slices.Clone(p.Clues), clue(1, 0, 0), clue(0, 0, 1), clue(0, 0, 0))
		before := slices.Clone(room)
		tight, wide := p, p
		tight.Clues = slices.Clip(slices.Clone(p.Clues))
		wide.Clues = room[:count]
		for _, k := range []int{0, 1, count - 1, count, count + 1} {
			got, want := callChapter9(wide, clue(1, 1, 0), "", k, 1), callChapter9(tight, clue(1, 1, 0), "", k, 1)
			if got != want {
				t.Fatalf("%.100s: %s with room behind its clues, %s without", textOfPuzzle(p), got, want)
			}
		}
		if !slices.Equal(room, before) {
			t.Fatalf("%.100s: the clues %v become %v", textOfPuzzle(p), before, room)
		}
	}
}

// TestPromise11FreshPuzzles: a result that is changed changes no other one, now or in a later call, nor the puzzle of which it was made.
func TestPromise11FreshPuzzles(t *testing.T) {
	p := puzzleOf("3x1:1.3.0,1.3.0,0.0.1,1.3.0")
	checkFresh(t, map[string]func() []int{
		"NeedlessClues": func() []int { list, _ := impl.NeedlessClues(p); return list },
		"LeftByClues":   func() []int { list, _ := impl.LeftByClues(p); return list },
	})
	checkFreshTexts(t, "Solutions", func() []string { boards, _ := impl.Solutions(puzzleOf("2x2:5.4.0")); return boards })
	for k := range p.Clues {
		checkFreshPuzzle(t, p, fmt.Sprint("DropClue ", k), func() (impl.Puzzle, bool) { return impl.DropClue(p, k) })
	}
	checkFreshPuzzle(t, p, "AddClue", func() (impl.Puzzle, bool) { return impl.AddClue(p, clue(0, 1, 1)) })
	checkFreshPuzzle(t, p, "HarderPuzzle", func() (impl.Puzzle, bool) { return impl.HarderPuzzle(p) })
	hard := puzzleOf("2x2:0.0.1,0.1.0,0.2.0,0.3.1")
	checkFreshPuzzle(t, hard, "HarderPuzzle of a hard one", func() (impl.Puzzle, bool) { return impl.HarderPuzzle(hard) })
	checkFreshPuzzle(t, p, "MakePuzzle", func() (impl.Puzzle, bool) { return impl.MakePuzzle("*../.../..*", 8, 1) })
	checkFreshPuzzle(t, p, "ParsePuzzle", func() (impl.Puzzle, bool) { return impl.ParsePuzzle("3x1:2.1.1,1.1.0") })
}

// checkFreshPuzzle: the clues that a call returns, and the room behind them, are its own.
func checkFreshPuzzle(t *testing.T, p impl.Puzzle, name string, call func() (impl.Puzzle, bool)) {
	t.Helper()
	given := textOfPuzzle(p)
	first, ok := call()
	other, _ := call()
	before := textOfPuzzle(first)
	if !ok || len(first.Clues) == 0 {
		t.Errorf("%s returns nothing that could be changed", name)
	}
	first.Clues = first.Clues[:cap(first.Clues)]
	for k := range first.Clues {
		first.Clues[k] = clue(-5, -5, -5)
	}
	again, _ := call()
	for _, got := range []impl.Puzzle{other, again} {
		if textOfPuzzle(got) != before {
			t.Errorf("%s: %s, %s when another one is changed", name, before, textOfPuzzle(got))
		}
	}
	if textOfPuzzle(p) != given {
		t.Errorf("%s: its clues are those of %s, which becomes %s", name, given, textOfPuzzle(p))
	}
}

// TestPuzzlesAtOnce: calls that go on beside each other, with the same clues, return what each of them does alone.
func TestPuzzlesAtOnce(t *testing.T) {
	puzzles := somePuzzles()
	checkAtOnce(t, len(puzzles), func(i int) string { return callChapter9(puzzles[i], clue(0, 0, 1), "*../.*.", 1, 2) })
}
