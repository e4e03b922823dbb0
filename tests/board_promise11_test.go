package tests

import (
	"fmt"
	"math"
	"slices"
	"testing"

	"loop.example/g01294/impl"
)

// callChapter1 calls every function of chapter 1, and tells what they return.
func callChapter1(a string, b string, x int, y int, list []int) string {
	return told(
		impl.IsBoard(a), three(impl.SizeOf(a)), two(impl.CountMines(a)), two(impl.MinesOf(a)),
		two(impl.BoardOfMines(x, y, list)), two(impl.NeighboursOf(a, x)), two(impl.NumberAt(a, x)),
		two(impl.NumbersOf(a)), two(impl.PictureOf(a)), two(impl.SumOfNumbers(a)),
		two(impl.PutMine(a, x)), two(impl.TakeMine(a, x)), two(impl.OtherBoard(a)),
		two(impl.TurnBoard(a)), two(impl.MirrorBoard(a)), two(impl.BesideBoard(a, b)),
		two(impl.ZerosOf(a)), two(impl.GroupsOfMines(a)), two(impl.LonelyMines(a)))
}

// TestPromise11AllArguments: no function panics, and each returns the same again.
func TestPromise11AllArguments(t *testing.T) {
	texts := append(noBoards(), ".", "*", "*../.../..*", "**.*", "*/./*", full("."), full("*"))
	lists := [][]int{nil, {}, {0}, {63}, {0, 1, 2}, {2, 1}, {-1}, {math.MinInt, math.MaxInt}, make([]int, 100)}
	for i, a := range texts {
		b := texts[(i*7+3)%len(texts)]
		for j, x := range oddInts() {
			for k, y := range oddInts() {
				list := lists[(i+j+k)%len(lists)]
				first := callChapter1(a, b, x, y, list)
				if k == 0 && callChapter1(a, b, x, y, list) != first {
					t.Fatalf("chapter 1 returns others for %.100q %.100q %d %d %v", a, b, x, y, list)
				}
			}
		}
	}
}

// TestPromise11Lists: neither a list nor the room behind it is changed.
func TestPromise11Lists(t *testing.T) {
	for _, list := range [][]int{{}, {0}, {0, 3, 8}, {8}, {3, 3}, {8, 0}, {9}, {-1, 4}} {
		room := append(slices.Clone(list), -7, -8, -9)
		before := slices.Clone(room)
		got, ok := impl.BoardOfMines(3, 3, room[:len(list)])
		want, wantOK := impl.BoardOfMines(3, 3, slices.Clip(slices.Clone(list)))
		if !slices.Equal(room, before) {
			t.Errorf("BoardOfMines changes %v to %v", before, room)
		}
		if got != want || ok != wantOK {
			t.Errorf("BoardOfMines %v: %q %v with room behind it, %q %v without", list, got, ok, want, wantOK)
		}
	}
}

// TestPromise11FreshResults: a result that is changed changes no other one, now or in a later call.
func TestPromise11FreshResults(t *testing.T) {
	b := "**../...*/*..*"
	checkFresh(t, map[string]func() []int{
		"MinesOf":      func() []int { list, _ := impl.MinesOf(b); return list },
		"NeighboursOf": func() []int { list, _ := impl.NeighboursOf(b, 5); return list },
		"NumbersOf":    func() []int { list, _ := impl.NumbersOf(b); return list },
		"ZerosOf":      func() []int { list, _ := impl.ZerosOf("*.../..../...."); return list },
		"LonelyMines":  func() []int { list, _ := impl.LonelyMines(b); return list },
	})
	checkFreshLists(t, "GroupsOfMines", func() [][]int { groups, _ := impl.GroupsOfMines(b); return groups })
}

// checkFresh: what a call returns is its own.
func checkFresh(t *testing.T, calls map[string]func() []int) {
	t.Helper()
	for name, call := range calls {
		list := call()
		before := fmt.Sprint(list)
		if len(list) == 0 {
			t.Errorf("%s returns nothing that could be changed", name)
		}
		spoil(list)
		if again := fmt.Sprint(call()); again != before {
			t.Errorf("%s: %s, %s when called again", name, before, again)
		}
	}
}

// checkFreshLists: so are all lists of it.
func checkFreshLists(t *testing.T, name string, call func() [][]int) {
	t.Helper()
	lists := call()
	before := fmt.Sprint(lists)
	if len(lists) < 2 {
		t.Errorf("%s returns %s, no lists that could share memory", name, before)
	}
	for i := range lists {
		spoil(lists[i])
		for k := i + 1; k < len(lists); k++ {
			if slices.Contains(lists[k], -5) {
				t.Fatalf("%s: the lists %d and %d share memory", name, i, k)
			}
		}
	}
	if again := fmt.Sprint(call()); again != before {
		t.Errorf("%s: %s, %s when called again", name, before, again)
	}
}

// spoil writes over a list and the room behind it.
func spoil(list []int) {
	list = list[:cap(list)]
	for i := range list {
		list[i] = -5
	}
}
