package tests

import (
	"fmt"
	"math"
	"runtime"
	"slices"
	"sync"
	"testing"
	"time"

	"loop.example/g01294/impl"
)

// TestPromise11AllArgumentsToViews: no function panics, and each returns the same again.
func TestPromise11AllArgumentsToViews(t *testing.T) {
	views := append(noViews(), noBoards()...)
	views = append(views, "?", "8", "?1?", "?/1/?", "??0/?2?/???", "1?0", "???/?8?/???", full("0"))
	boards := []string{"", ".", "*..", "*../.../..*", "*/./.", full("."), full("*"), "?1?", "???/???/???"}
	for i, v := range views {
		for k, mines := range oddInts() {
			for l, cell := range oddInts() {
				b := boards[(i+k+l)%len(boards)]
				first := callWithView(v, mines, cell, b)
				if l%5 == 0 && callWithView(v, mines, cell, b) != first {
					t.Fatalf("chapter 3 returns others for %.100q %d %d %q", v, mines, cell, b)
				}
			}
		}
	}
	callWithView("???????/???????", -1, 13, "*....../......*")
}

// TestPromise11ListsOfOpenCells: neither a list nor the room behind it is changed, read or handed out.
func TestPromise11ListsOfOpenCells(t *testing.T) {
	b := "*../.../..*"
	for _, list := range [][]int{{}, {1}, {1, 2, 4}, {7}, {2, 2}, {4, 1}, {0}, {1, 8}, {9}, {-1, 4}, {math.MinInt}, {math.MaxInt}} {
		// Cells that could be open as well follow in the room behind the list.
		room := append(slices.Clone(list), 5, 6, 7)
		before := slices.Clone(room)
		got := two(impl.ViewOf(b, room[:len(list)]))
		if !slices.Equal(room, before) {
			t.Errorf("ViewOf changes %v to %v", before, room)
		}
		if want := two(impl.ViewOf(b, slices.Clip(slices.Clone(list)))); got != want {
			t.Errorf("ViewOf %v: %s with room behind it, %s without", list, got, want)
		}
	}
}

// TestPromise11FreshViews: a result that is changed changes no other one, now or in a later call.
func TestPromise11FreshViews(t *testing.T) {
	v := "??0/?2?/???"
	checkFresh(t, map[string]func() []int{
		"HiddenCells":  func() []int { list, _ := impl.HiddenCells(v); return list },
		"SureMines":    func() []int { list, _ := impl.SureMines("???/121", -1); return list },
		"SureFree":     func() []int { list, _ := impl.SureFree(v, -1); return list },
		"SafestCells":  func() []int { list, _ := impl.SafestCells(v, 2); return list },
		"CountByMines": func() []int { list, _ := impl.CountByMines(v); return list },
	})
	checkFreshLists(t, "ChancesOf", func() [][]int { lists, _ := impl.ChancesOf(v, -1); return lists })
	checkFreshLists(t, "NumbersFor", func() [][]int { lists, _ := impl.NumbersFor(v, -1, 1); return lists })
	boards, _ := impl.FittingBoards(v, -1)
	before := fmt.Sprint(boards)
	for i := range boards {
		boards[i] = "?"
	}
	again, ok := impl.FittingBoards(v, -1)
	same(t, "FittingBoards when called again", again, ok, before)
}

// TestNothingGoesOn: no goroutine is left behind by calls, whether they ask for all boards that fit or stop early.
func TestNothingGoesOn(t *testing.T) {
	before := runtime.NumGoroutine()
	for range 200 {
		impl.IsSettled("???????/???????", -1)
		impl.FittingBoards("???????/???????", -1)
		impl.FittingBoards("?", -1)
		impl.CountFitting("1?0", -1)
		impl.SureMines("?1?", 1)
	}
	checkGoroutines(t, before)
}

// checkGoroutines: there are no more goroutines than before.
func checkGoroutines(t *testing.T, before int) {
	t.Helper()
	// A goroutine that has told its end may still be counted for a moment.
	for range 100 {
		if runtime.NumGoroutine() <= before {
			return
		}
		time.Sleep(10 * time.Millisecond)
	}
	t.Errorf("%d goroutines, %d before", runtime.NumGoroutine(), before)
}

// TestCallsAtOnce: calls that go on beside each other return what each of them does alone.
func TestCallsAtOnce(t *testing.T) {
	views := []string{"?1?", "??0/?2?/???", "???/121", "1?0", "?????/1???1/?????", full("0")}
	checkAtOnce(t, len(views), func(i int) string { return callWithView(views[i], -1, 0, ".") })
}

// checkAtOnce makes each of some calls four times, all of them beside each other, and holds what they return against what each of them does alone.
func checkAtOnce(t *testing.T, count int, call func(i int) string) {
	t.Helper()
	results := make([]string, 4*count)
	var all sync.WaitGroup
	for k := range results {
		all.Go(func() { results[k] = call(k % count) })
	}
	all.Wait()
	for k, got := range results {
		if alone := call(k % count); got != alone {
			t.Errorf("the call %d: %.200s at once, %.200s alone", k%count, got, alone)
		}
	}
}
