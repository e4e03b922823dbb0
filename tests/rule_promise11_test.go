package tests

import (
	"math"
	"slices"
	"testing"

	"loop.example/g01294/impl"
)

// TestPromise11AllArgumentsToNotes: no function panics, and each returns the same again.
func TestPromise11AllArgumentsToNotes(t *testing.T) {
	texts := append(noNotes(), "?", "*", ".", "8", "?1?", "?/1/?", "0*?0", "???/121", "?21?/??.*/1.2?", "*../.../..*", full("?"), full("8"), full("*"))
	boards := []string{"", ".", "*..", "*./...", "*.../*..*/...*", "*../.../..*", full("."), full("*"), "???/121"}
	lists := [][]int{nil, {}, {0}, {63}, {0, 4, 11}, {2, 1}, {-1}, {math.MinInt, math.MaxInt}, upTo(64), make([]int, 100)}
	for i, v := range texts {
		for k, a := range oddInts() {
			for l, b := range oddInts() {
				cells, board := lists[(i+k+l)%len(lists)], boards[(i+k*3+l)%len(boards)]
				first := callWithNotes(v, a, b, cells, board)
				if l%5 == 0 && callWithNotes(v, a, b, cells, board) != first {
					t.Fatalf("chapter 4 returns others for %.100q %d %d %v %q", v, a, b, cells, board)
				}
			}
		}
	}
}

// TestPromise11ListsToNote: neither a list nor the room behind it is changed, read or handed out.
func TestPromise11ListsToNote(t *testing.T) {
	v := "?21?/??.*/1.2?"
	for _, list := range [][]int{{}, {0}, {0, 3}, {3, 4}, {0, 0}, {3, 0}, {1}, {0, 7}, {12}, {-1, 3}, {math.MinInt}, {math.MaxInt}} {
		// Cells that could be noted as well follow in the room behind the list.
		room := append(slices.Clone(list), 5, 11)
		before := slices.Clone(room)
		got := two(impl.NoteMines(v, room[:len(list)])) + two(impl.NoteFree(v, room[:len(list)]))
		if !slices.Equal(room, before) {
			t.Errorf("NoteMines and NoteFree change %v to %v", before, room)
		}
		clipped := slices.Clip(slices.Clone(list))
		if want := two(impl.NoteMines(v, clipped)) + two(impl.NoteFree(v, clipped)); got != want {
			t.Errorf("NoteMines and NoteFree %v: %s with room behind it, %s without", list, got, want)
		}
	}
}

// TestPromise11FreshFinds: a result that is changed changes no other one, now or in a later call.
func TestPromise11FreshFinds(t *testing.T) {
	v := "?21?/??.*/1.2?"
	checkFresh(t, map[string]func() []int{
		"UnknownOf":         func() []int { list, _ := impl.UnknownOf(v); return list },
		"UnknownNear":       func() []int { list, _ := impl.UnknownNear(v, 1); return list },
		"SingleFinds mines": func() []int { list, _, _ := impl.SingleFinds("?2?", 1); return list },
		"SingleFinds free":  func() []int { _, list, _ := impl.SingleFinds(v, 2); return list },
		"PairFinds mines":   func() []int { list, _, _ := impl.PairFinds(v, 8, 1); return list },
		"PairFinds free":    func() []int { _, list, _ := impl.PairFinds("1?1?", 0, 2); return list },
	})
}

// TestRulesAtOnce: calls that go on beside each other return what each of them does alone.
func TestRulesAtOnce(t *testing.T) {
	all := []string{"?1?", "???/121", "?21?/??.*/1.2?", "0*?0", "????/1131/????", full("?")}
	checkAtOnce(t, len(all), func(i int) string { return callWithNotes(all[i], 0, 1, []int{0}, "...") })
}
