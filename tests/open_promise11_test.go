package tests

import (
	"math"
	"slices"
	"testing"

	"loop.example/g01294/impl"
)

// callChapter2 calls every function of chapter 2, and tells what they return.
func callChapter2(b string, cell int, clicks []int) string {
	return told(
		two(impl.OpenedBy(b, cell)), two(impl.OpeningsOf(b)), two(impl.CountOpenings(b)), two(impl.EdgeOfOpening(b, cell)),
		two(impl.CellsAlone(b)), two(impl.FewestClicks(b)), two(impl.FirstClicks(b)), callWithClicks(b, clicks),
		two(impl.LargestOpening(b)), three(impl.BestClicks(b)), two(impl.OpeningsWith(b, cell)), two(impl.SharedCells(b)))
}

// TestPromise11AllArgumentsToOpen: no function panics, and each returns the same again.
func TestPromise11AllArgumentsToOpen(t *testing.T) {
	texts := append(noBoards(), ".", "*", "*../.../..*", "**.*", "*/./*", "..*.*./....../*.....", full("*"))
	lists := [][]int{nil, {}, {0}, {63}, {1, 2, 1}, {2, 1}, {-1}, {1, 9}, {math.MinInt, math.MaxInt}, make([]int, 64), make([]int, 65)}
	for _, b := range texts {
		for _, cell := range oddInts() {
			for _, clicks := range lists {
				first := callChapter2(b, cell, clicks)
				if again := callChapter2(b, cell, clicks); again != first {
					t.Fatalf("chapter 2 returns %s, then %s for %.100q %d %v", first, again, b, cell, clicks)
				}
			}
		}
	}
	for _, cell := range oddInts() {
		callChapter2(full("."), cell, []int{cell})
	}
}

// TestPromise11Clicks: neither a list of clicks nor the room behind it is changed, read or handed out.
func TestPromise11Clicks(t *testing.T) {
	b := "..*.*./....../*....."
	lists := [][]int{{}, {0}, {16, 7, 0, 3, 7}, {17, 17}, {5, 3, 1}, {2}, {0, 18}, {-1, 4}, slices.Repeat([]int{9}, 64), slices.Repeat([]int{9}, 65)}
	for _, list := range lists {
		// Clicks that would be good ones follow in the room behind the list.
		room := append(slices.Clone(list), 14, 5, 0)
		before := slices.Clone(room)
		got := callWithClicks(b, room[:len(list)])
		if !slices.Equal(room, before) {
			t.Errorf("%v becomes %v", before, room)
		}
		if want := callWithClicks(b, slices.Clip(slices.Clone(list))); got != want {
			t.Errorf("%v: %s with room behind it, %s without", list, got, want)
		}
		open, _ := impl.OpenAfter(b, room[:len(list)])
		needless, _ := impl.NeedlessClicks(b, room[:len(list)])
		spoil(open)
		spoil(needless)
		if !slices.Equal(room, before) {
			t.Errorf("a result shares memory with the clicks %v", before)
		}
	}
}

// TestPromise11FreshOpenings: a result that is changed changes no other one, now or in a later call.
func TestPromise11FreshOpenings(t *testing.T) {
	b := "..*.*./....../*....."
	checkFresh(t, map[string]func() []int{
		"OpenedBy":       func() []int { list, _ := impl.OpenedBy(b, 0); return list },
		"EdgeOfOpening":  func() []int { list, _ := impl.EdgeOfOpening(b, 0); return list },
		"CellsAlone":     func() []int { list, _ := impl.CellsAlone(b); return list },
		"FirstClicks":    func() []int { list, _ := impl.FirstClicks(b); return list },
		"OpenAfter":      func() []int { list, _ := impl.OpenAfter(b, []int{0, 3}); return list },
		"NeedlessClicks": func() []int { list, _ := impl.NeedlessClicks(b, []int{0, 0, 1}); return list },
		"LargestOpening": func() []int { list, _ := impl.LargestOpening(b); return list },
		"BestClicks":     func() []int { list, _, _ := impl.BestClicks(b); return list },
		"OpeningsWith":   func() []int { list, _ := impl.OpeningsWith(b, 7); return list },
		"SharedCells":    func() []int { list, _ := impl.SharedCells(b); return list },
	})
	checkFreshLists(t, "OpeningsOf", func() [][]int { lists, _ := impl.OpeningsOf(b); return lists })
}
