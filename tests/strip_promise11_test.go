package tests

import (
	"math"
	"slices"
	"strings"
	"testing"

	"loop.example/g01294/impl"
)

// callChapter6 calls every function of chapter 6, and tells what they return.
func callChapter6(s string, b string, number int, cells int, sum int, hidden []int) string {
	return told(callWithStrip(s, number, b), two(impl.CountStripSums(cells, sum)), two(impl.CountLists(cells)), two(impl.HideStrip(b, hidden)))
}

// TestPromise11AllArgumentsToStrips: no function panics, and each returns the same again.
func TestPromise11AllArgumentsToStrips(t *testing.T) {
	texts := append(noRows(), "?", "0", "1", "2", "?1?1?", "??1??", "*", ".", "*..*.", strings.Repeat("0", 40), strings.Repeat("?1", 20), strings.Repeat(".", 40), strings.Repeat("*", 40))
	lists := [][]int{nil, {}, {0}, {39}, {0, 2, 4}, {2, 1}, {-1}, {math.MinInt, math.MaxInt}, upTo(40), make([]int, 100)}
	ints := append(oddInts(), 2, 12, 13, 39, 40, 41, 100, 101)
	for i, s := range texts {
		for k, number := range ints {
			for l := range 3 {
				at := func(step int) int { return ints[(i*5+k*step+l*8)%len(ints)] }
				b, cells, sum, hidden := texts[(i*5+k*3+l)%len(texts)], at(2), at(4), lists[(i+k+l)%len(lists)]
				first := callChapter6(s, b, number, cells, sum, hidden)
				if l == 0 && callChapter6(s, b, number, cells, sum, hidden) != first {
					t.Fatalf("chapter 6 returns others for %.100q %.100q %d %d %d %v", s, b, number, cells, sum, hidden)
				}
			}
		}
	}
}

// TestPromise11HiddenCells: neither a list of hidden cells nor the room behind it is changed, read or handed out.
func TestPromise11HiddenCells(t *testing.T) {
	b := "*..*.*..."
	for _, list := range [][]int{{}, {0}, {1}, {1, 4}, {0, 3, 5}, {0, 0}, {4, 1}, {9}, {8, 9}, {-1, 3}, {math.MinInt}, {math.MaxInt}} {
		// Cells that could be hidden as well follow in the room behind the list.
		room := append(slices.Clone(list), 6, 8)
		before := slices.Clone(room)
		got := two(impl.HideStrip(b, room[:len(list)]))
		if !slices.Equal(room, before) {
			t.Errorf("HideStrip changes %v to %v", before, room)
		}
		if want := two(impl.HideStrip(b, slices.Clip(slices.Clone(list)))); got != want {
			t.Errorf("HideStrip %v: %s with room behind it, %s without", list, got, want)
		}
	}
}

// TestPromise11FreshStrips: a result that is changed changes no other one, now or in a later call.
func TestPromise11FreshStrips(t *testing.T) {
	checkFresh(t, map[string]func() []int{
		"StripByMines": func() []int { counts, _ := impl.StripByMines("??1??"); return counts },
		"StripByMines of as many cells as there may be": func() []int { counts, _ := impl.StripByMines(strings.Repeat("?", 40)); return counts },
	})
}

// TestStripsAtOnce: calls that go on beside each other return what each of them does alone.
func TestStripsAtOnce(t *testing.T) {
	all := []string{"?", "?1?1?", "??1??", "2?", strings.Repeat("?", 40), strings.Repeat("?1", 20)}
	checkAtOnce(t, len(all), func(i int) string { return callChapter6(all[i], "*..*.", 1, len(all[i]), 3, []int{1}) })
}
