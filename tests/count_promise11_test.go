package tests

import (
	"fmt"
	"testing"

	"loop.example/g01294/impl"
)

// callChapter5 calls every function of chapter 5, and tells what they return.
func callChapter5(width int, height int, mines int, cell int, number int, sum int, b string) string {
	return told(callCounts(width, height, mines, cell, number, sum), callMeans(width, height, mines, cell), two(impl.SameNumbers(b)))
}

// TestPromise11AllArgumentsToCounts: no function panics, and each returns the same again.
func TestPromise11AllArgumentsToCounts(t *testing.T) {
	boards := append(noBoards(), ".", "*", "*..", "*../.../..*", "****/*..*/****", "......./.......", full("."), full("*"))
	ints := oddInts()
	for i, width := range append(ints, 2, 3, 4) {
		for k, height := range append(ints, 2, 3, 4) {
			for l := range ints {
				at := func(step int) int { return ints[(i*5+k*3+l*step)%len(ints)] }
				b := boards[(i*len(ints)*2+k*len(ints)+l)%len(boards)]
				first := callChapter5(width, height, at(1), at(2), at(4), at(7), b)
				if l%7 == 0 && callChapter5(width, height, at(1), at(2), at(4), at(7), b) != first {
					t.Fatalf("chapter 5 returns others for %d %d %d %d %d %d %.100q", width, height, at(1), at(2), at(4), at(7), b)
				}
			}
		}
	}
}

// TestPromise11FreshCounts: a result that is changed changes no other one, now or in a later call.
func TestPromise11FreshCounts(t *testing.T) {
	checkFreshLists(t, "SumCounts", func() [][]int { counts, _ := impl.SumCounts(3, 3); return counts })
	boards, _ := impl.SameNumbers("*...*")
	before := fmt.Sprint(boards)
	for i := range boards {
		boards[i] = "?"
	}
	again, ok := impl.SameNumbers("*...*")
	same(t, "SameNumbers when called again", again, ok, before)
}

// TestCountsAtOnce: calls that go on beside each other return what each of them does alone.
func TestCountsAtOnce(t *testing.T) {
	sizes := [][2]int{{1, 1}, {3, 3}, {4, 3}, {2, 6}, {8, 1}, {8, 8}}
	checkAtOnce(t, len(sizes), func(i int) string { return callChapter5(sizes[i][0], sizes[i][1], 1, 0, 1, 3, "*..") })
}
