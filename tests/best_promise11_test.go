package tests

import (
	"fmt"
	"testing"

	"loop.example/g01294/impl"
)

// callChapter7 calls every function of chapter 7, and tells what they return.
func callChapter7(v string, mines int, cell int, b string, width int, height int) string {
	return told(callPlayed(v, mines, cell), callPlay(v, b), callFirst(width, height, mines))
}

// TestPromise11AllArgumentsToPlays: no function panics, and each returns the same again.
func TestPromise11AllArgumentsToPlays(t *testing.T) {
	views := append(noViews(), noBoards()...)
	views = append(views, "?", "0", "?1?", "???", "?/1/?", "??0/?2?/???", "1?0", "????/????", "???/?8?/???", "?11?", full("0"))
	boards := []string{"", ".", "*", "*..", "*../.../..*", "*/./.", "*.../..*.", "*..*", full("."), full("*"), "?1?", "???/???/???"}
	ints := append(oddInts(), 2, 3, 4)
	for i, v := range views {
		for k, mines := range ints {
			for l := range 5 {
				cell, width, height := ints[(i+k*3+l*5)%len(ints)], ints[(i*5+k+l*7)%len(ints)], ints[(i+k*7+l*3)%len(ints)]
				b := boards[(i*7+k+l*5)%len(boards)]
				first := callChapter7(v, mines, cell, b, width, height)
				if l == 0 && callChapter7(v, mines, cell, b, width, height) != first {
					t.Fatalf("chapter 7 returns others for %.100q %d %d %q %d %d", v, mines, cell, b, width, height)
				}
			}
		}
	}
	for _, width := range ints {
		for _, height := range ints {
			for _, mines := range ints {
				callFirst(width, height, mines)
			}
		}
	}
}

// TestPromise11FreshPlays: a result that is changed changes no other one, now or in a later call.
func TestPromise11FreshPlays(t *testing.T) {
	checkFresh(t, map[string]func() []int{
		"BestCells":                func() []int { cells, _ := impl.BestCells("?1??0", 1); return cells },
		"BestCells of eight cells": func() []int { cells, _ := impl.BestCells("????????", 1); return cells },
		"BestFirst":                func() []int { cells, _ := impl.BestFirst(8, 1, 2); return cells },
		"PlayBest":                 func() []int { cells, _, _ := impl.PlayBest("????????", "*......."); return cells },
		"PlayBest to the end":      func() []int { cells, _, _ := impl.PlayBest("????????", ".......*"); return cells },
	})
	boards, _ := impl.WonBoards("????????", 3)
	before := fmt.Sprint(boards)
	for i := range boards {
		boards[i] = "?"
	}
	again, ok := impl.WonBoards("????????", 3)
	same(t, "WonBoards when called again", again, ok, before)
}

// TestPlaysAtOnce: calls that go on beside each other return what each of them does alone.
func TestPlaysAtOnce(t *testing.T) {
	views := []string{"?1?", "??0/?2?/???", "????????", "1?0", "?11?", full("0")}
	checkAtOnce(t, len(views), func(i int) string { return callChapter7(views[i], 2, 0, "*..", 4, 2) })
}
