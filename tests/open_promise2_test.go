package tests

import (
	"fmt"
	"math/bits"
	"slices"
	"testing"

	"loop.example/g01294/impl"
)

// TestPromise2Openings: openings go over zeros to their edges, and have with the cells alone all free cells.
func TestPromise2Openings(t *testing.T) {
	eachBoard(func(b string) {
		m := modelOf(b)
		openings, ok := impl.OpeningsOf(b)
		alone, aloneOK := impl.CellsAlone(b)
		if !ok || !aloneOK {
			t.Fatalf("OpeningsOf %s: %v, CellsAlone: %v", b, ok, aloneOK)
		}
		all := slices.Clone(alone)
		for _, cells := range openings {
			checkReaches(t, b, m, cells)
			for _, cell := range cells {
				if slices.Contains(alone, cell) {
					t.Fatalf("CellsAlone %s: %d is in the opening %v", b, cell, cells)
				}
			}
			all = append(all, cells...)
		}
		slices.Sort(all)
		same(t, "all cells in openings or alone of "+b, slices.Compact(all), true, m.pick(m.isFree))
	})
}

// checkReaches: an opening has all that is beside its zeros, and nothing else; and each zero of it opens it.
func checkReaches(t *testing.T, b string, m model, cells []int) {
	t.Helper()
	zeros, edge := []int{}, []int{}
	for _, cell := range cells {
		if m.isZero(cell) {
			zeros = append(zeros, cell)
		} else {
			edge = append(edge, cell)
		}
	}
	for _, cell := range edge {
		if m.hasMine(cell) || !slices.ContainsFunc(m.near(cell), func(other int) bool { return slices.Contains(zeros, other) }) {
			t.Fatalf("OpeningsOf %s: %d in %v is a mine or beside no zero", b, cell, cells)
		}
	}
	for _, zero := range zeros {
		for _, other := range m.near(zero) {
			if !slices.Contains(cells, other) {
				t.Fatalf("OpeningsOf %s: %d is beside the zero %d, but not in %v", b, other, zero, cells)
			}
		}
		got, ok := impl.OpenedBy(b, zero)
		same(t, fmt.Sprintf("OpenedBy %s %d", b, zero), got, ok, cells)
		got, ok = impl.EdgeOfOpening(b, zero)
		same(t, fmt.Sprintf("EdgeOfOpening %s %d", b, zero), got, ok, edge)
	}
}

// TestOpeningsAndModel holds the functions of a board alone against the model.
func TestOpeningsAndModel(t *testing.T) {
	eachBoard(func(b string) {
		o := openingOf(b)
		openings, ok := impl.OpeningsOf(b)
		same(t, "OpeningsOf "+b, openings, ok, o.openings)
		count, ok := impl.CountOpenings(b)
		same(t, "CountOpenings "+b, count, ok, len(o.openings))
		alone, ok := impl.CellsAlone(b)
		same(t, "CellsAlone "+b, alone, ok, o.alone())
		first := o.alone()
		for _, group := range o.groups {
			first = append(first, group[0])
		}
		slices.Sort(first)
		clicks, ok := impl.FirstClicks(b)
		same(t, "FirstClicks "+b, clicks, ok, first)
		fewest, ok := impl.FewestClicks(b)
		same(t, "FewestClicks "+b, fewest, ok, len(first))
		shared, ok := impl.SharedCells(b)
		same(t, "SharedCells "+b, shared, ok, o.pick(func(cell int) bool { return len(o.with(cell)) > 1 }))
		checkMostCells(t, b, o)
		for cell := range o.cells() {
			checkCellOf(t, b, o, cell)
		}
	})
}

// checkMostCells holds the largest opening and the best clicks against the model.
func checkMostCells(t *testing.T, b string, o opening) {
	t.Helper()
	largest := []int{}
	for _, cells := range o.openings {
		if len(cells) > len(largest) {
			largest = cells
		}
	}
	if got, want := two(impl.LargestOpening(b)), told(largest, len(largest) > 0); got != want {
		t.Fatalf("LargestOpening %s: %s, want %s", b, got, want)
	}
	most := 0
	for _, cell := range o.pick(o.isFree) {
		most = max(most, len(o.opened(cell)))
	}
	best := o.pick(func(cell int) bool { return o.isFree(cell) && len(o.opened(cell)) == most })
	if got, want := three(impl.BestClicks(b)), told(best, most, most > 0); got != want {
		t.Fatalf("BestClicks %s: %s, want %s", b, got, want)
	}
}

// checkCellOf holds the functions of a board and a cell against the model.
func checkCellOf(t *testing.T, b string, o opening, cell int) {
	t.Helper()
	opened, edge, with := "[] false", "[] false", "[] false"
	if o.isFree(cell) {
		opened, with = told(o.opened(cell), true), told(o.with(cell), true)
	}
	if o.isZero(cell) {
		edge = told(slices.DeleteFunc(slices.Clone(o.opened(cell)), o.isZero), true)
	}
	call := fmt.Sprintf(" %s %d", b, cell)
	checkCases(t, []boardCase{
		{"OpenedBy" + call, two(impl.OpenedBy(b, cell)), opened},
		{"EdgeOfOpening" + call, two(impl.EdgeOfOpening(b, cell)), edge},
		{"OpeningsWith" + call, two(impl.OpeningsWith(b, cell)), with},
	})
}

// TestClicksAndModel holds the functions of a board and clicks against the model.
func TestClicksAndModel(t *testing.T) {
	eachBoard(func(b string) {
		o := openingOf(b)
		for _, clicks := range o.someClicks() {
			open := o.after(clicks)
			needed := 0
			for _, cell := range o.alone() {
				if !slices.Contains(open, cell) {
					needed++
				}
			}
			for _, group := range o.groups {
				if !slices.Contains(open, group[0]) {
					needed++
				}
			}
			call := fmt.Sprintf(" %s %v", b, clicks)
			checkCases(t, []boardCase{
				{"OpenAfter" + call, two(impl.OpenAfter(b, clicks)), told(open, true)},
				{"AreAllOpen" + call, two(impl.AreAllOpen(b, clicks)), told(len(open) == len(o.pick(o.isFree)), true)},
				{"NeedlessClicks" + call, two(impl.NeedlessClicks(b, clicks)), told(o.needless(clicks), true)},
				{"SeenAfter" + call, two(impl.SeenAfter(b, clicks)), told(o.seen(open), true)},
				{"ClicksNeeded" + call, two(impl.ClicksNeeded(b, clicks)), told(needed, true)},
			})
		}
	})
}

// TestPromise2FewestClicks tries all sets of clicks on boards of up to nine cells: no fewer ones open all free cells.
func TestPromise2FewestClicks(t *testing.T) {
	eachBoard(func(b string) {
		m := modelOf(b)
		if m.cells() > 9 {
			return
		}
		open := openBySets(t, b, m, impl.OpenedBy)
		all := open[len(open)-1]
		fewest, ok := impl.FewestClicks(b)
		same(t, "FewestClicks "+b, fewest, ok, fewestFor(open, 0, all))
		first, _ := impl.FirstClicks(b)
		same(t, "FirstClicks open all cells of "+b, two(impl.AreAllOpen(b, first)), len(first) == fewest, "true true")
		for _, free := range m.pick(m.isFree) {
			needed, ok := impl.ClicksNeeded(b, []int{free})
			same(t, fmt.Sprintf("ClicksNeeded %s %d", b, free), needed, ok, fewestFor(open, open[setOf(m, free)], all))
		}
	})
}

// setOf is the set of clicks on just one free cell: a bit for each free cell, in order.
func setOf(m model, cell int) int {
	return 1 << slices.Index(m.pick(m.isFree), cell)
}

// openBySets tells for each set of clicks, free cells by bits, the cells that are open behind them, as bits, where a call tells what one click opens.
func openBySets(t *testing.T, b string, m model, openedBy func(b string, cell int) ([]int, bool)) []int {
	t.Helper()
	free := m.pick(m.isFree)
	open := make([]int, 1<<len(free))
	for set := 1; set < len(open); set++ {
		last := bits.Len(uint(set)) - 1
		opened, ok := openedBy(b, free[last])
		if !ok {
			t.Fatalf("a click on %s %d fails", b, free[last])
		}
		open[set] = open[set&^(1<<last)]
		for _, cell := range opened {
			open[set] |= 1 << cell
		}
	}
	return open
}

// fewestFor is the size of the least set of clicks that opens all cells that are not open before.
func fewestFor(open []int, before int, all int) int {
	fewest := len(open)
	for set := range open {
		if open[set]|before == all {
			fewest = min(fewest, bits.OnesCount(uint(set)))
		}
	}
	return fewest
}
