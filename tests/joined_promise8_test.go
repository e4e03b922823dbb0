package tests

import (
	"fmt"
	"slices"
	"strings"
	"testing"

	"loop.example/g01294/impl"
)

// TestPromise8Numbers: numbers around are those of neighbours around.
func TestPromise8Numbers(t *testing.T) {
	eachJoined(func(b string) {
		m := joinedOf(b)
		if !impl.IsJoined(b) {
			t.Fatalf("IsJoined %s is false", b)
		}
		numbers, ok := impl.JoinedNumbers(b)
		same(t, "JoinedNumbers "+b, numbers, ok, m.numbers())
		for cell, number := range numbers {
			near, nearOK := impl.JoinedNeighbours(b, cell)
			same(t, fmt.Sprintf("JoinedNeighbours %s %d", b, cell), near, nearOK, m.near(cell))
			if !areDifferentOthers(near, cell) {
				t.Fatalf("JoinedNeighbours %s %d are %v, want eight others", b, cell, near)
			}
			if mines := len(slices.DeleteFunc(near, m.isFree)); mines != number {
				t.Fatalf("JoinedNumbers %s: %d in the cell %d, which has %d mines as neighbours", b, number, cell, mines)
			}
		}
		picture, ok := impl.JoinedPicture(b)
		same(t, "JoinedPicture "+b, picture, ok, m.picture())
		sum, ok := impl.JoinedSum(b)
		same(t, "JoinedSum "+b, sum, ok, m.sum())
	})
}

// areDifferentOthers tells whether eight cells are increasing, and none is a certain one.
func areDifferentOthers(cells []int, cell int) bool {
	return len(cells) == 8 && len(slices.Compact(slices.Sorted(slices.Values(cells)))) == 8 && slices.IsSorted(cells) && !slices.Contains(cells, cell)
}

// TestJoinedNeighboursOfEachOther: a cell is a neighbour around of all its neighbours.
func TestJoinedNeighboursOfEachOther(t *testing.T) {
	eachJoinedSize(func(width int, height int) {
		b := textOfBits(width, height, 0)
		for cell := range width * height {
			near, _ := impl.JoinedNeighbours(b, cell)
			for _, other := range near {
				if back, ok := impl.JoinedNeighbours(b, other); !ok || !slices.Contains(back, cell) {
					t.Fatalf("JoinedNeighbours %s %d are %v, without %d", b, other, back, cell)
				}
			}
		}
	})
}

// TestJoinedNumbersInWiderBoards holds them against chapter 1: a board with its last row before the first one, its first row behind the last one, and columns in the same way, has the numbers around in its middle.
func TestJoinedNumbersInWiderBoards(t *testing.T) {
	eachJoined(func(b string) {
		m := modelOf(b)
		if m.width > 6 || m.height > 6 {
			return
		}
		rows := strings.Split(b, "/")
		rows = slices.Concat(rows[m.height-1:], rows, rows[:1])
		for i, row := range rows {
			rows[i] = row[m.width-1:] + row + row[:1]
		}
		picture, _ := impl.PictureOf(strings.Join(rows, "/"))
		inner := strings.Split(picture, "/")[1 : m.height+1]
		for i, row := range inner {
			inner[i] = row[1 : m.width+1]
		}
		got, ok := impl.JoinedPicture(b)
		same(t, "JoinedPicture "+b, got, ok, strings.Join(inner, "/"))
	})
}

// TestPromise8Shifts: shifted boards have shifted numbers, and as many groups, clicks and shifts as before.
func TestPromise8Shifts(t *testing.T) {
	eachJoined(func(b string) {
		m := joinedOf(b)
		shifts := shiftedTexts(b)
		before := toldByShifts(b)
		for i, want := range shifts {
			right, down := i/m.height, i%m.height
			got, ok := impl.ShiftBoard(b, right, down)
			same(t, fmt.Sprintf("ShiftBoard %s %d %d", b, right, down), got, ok, want)
			// Large boards have many shifts, of which some are enough.
			if m.cells() > 30 && i%7 != 0 {
				continue
			}
			numbers, ok := impl.JoinedNumbers(got)
			same(t, "JoinedNumbers "+got, numbers, ok, m.shiftedNumbers(right, down))
			picture, ok := impl.JoinedPicture(got)
			same(t, "JoinedPicture "+got, picture, ok, shiftedText(m.picture(), right, down))
			same(t, "all that shifts keep of "+got, toldByShifts(got), true, before)
		}
	})
}

// shiftedNumbers are the numbers of all cells, each in the cell to which a shift moves its own.
func (m model) shiftedNumbers(right int, down int) []int {
	out := make([]int, m.cells())
	for cell := range out {
		row, column := (cell/m.width+down)%m.height, (cell%m.width+right)%m.width
		out[row*m.width+column] = m.number(cell)
	}
	return out
}

// toldByShifts tells what is the same for all shifted boards.
func toldByShifts(b string) string {
	groups, ok := impl.JoinedGroups(b)
	return told(
		two(impl.JoinedSum(b)), two(impl.LeastShift(b)), two(impl.CountShifts(b)), two(impl.ShiftsKept(b)),
		two(impl.IsEven(b)), len(groups), ok, two(impl.JoinedClicks(b)))
}

// TestShiftsAndModel holds the functions of all shifts against the model.
func TestShiftsAndModel(t *testing.T) {
	before := "*../.../..."
	eachJoined(func(b string) {
		texts := shiftedTexts(b)
		least, ok := impl.LeastShift(b)
		same(t, "LeastShift "+b, least, ok, slices.Min(texts))
		count, ok := impl.CountShifts(b)
		same(t, "CountShifts "+b, count, ok, countDifferent(texts))
		kept, ok := impl.ShiftsKept(b)
		same(t, "ShiftsKept "+b, kept, ok, keptShifts(b))
		if count*len(kept) != len(texts) {
			t.Fatalf("%s: %d different boards by %d shifts, %d of which keep it", b, count, len(texts), len(kept))
		}
		for _, other := range []string{b, before, texts[len(texts)-1], texts[len(texts)/2], turnedText(strings.Split(b, "/")), withOtherMine(b)} {
			checkAreShifted(t, b, other)
			checkAreShifted(t, other, b)
		}
		before = b
	})
}

// withOtherMine is the board with a mine more, or less, in its last cell.
func withOtherMine(b string) string {
	last := map[string]string{".": "*", "*": "."}
	return b[:len(b)-1] + last[b[len(b)-1:]]
}

func checkAreShifted(t *testing.T, a string, b string) {
	t.Helper()
	got, ok := impl.AreShifted(a, b)
	same(t, "AreShifted "+a+" "+b, got, ok, slices.Contains(shiftedTexts(a), b))
}

// TestAreShiftedOfAllSmallBoards tries all pairs of boards of three by three with the same first row, and many others.
func TestAreShiftedOfAllSmallBoards(t *testing.T) {
	for a := range uint64(1) << 9 {
		for step := range uint64(64) {
			checkAreShifted(t, textOfBits(3, 3, a), textOfBits(3, 3, (a+step*8)%512))
		}
	}
}

// TestJoinedGroupsAndClicks holds groups and openings against the model.
func TestJoinedGroupsAndClicks(t *testing.T) {
	eachJoined(func(b string) {
		o := openingIn(joinedOf(b))
		groups, ok := impl.JoinedGroups(b)
		same(t, "JoinedGroups "+b, groups, ok, o.model.groups())
		clicks, ok := impl.JoinedClicks(b)
		same(t, "JoinedClicks "+b, clicks, ok, o.fewest())
		for cell := range o.cells() {
			want := "[] false"
			if o.isFree(cell) {
				want = told(o.opened(cell), true)
			}
			checkCases(t, []boardCase{{fmt.Sprintf("JoinedOpened %s %d", b, cell), two(impl.JoinedOpened(b, cell)), want}})
		}
	})
}

// TestIsEvenAndModel holds even boards against the model, and is no test unless there are some of several numbers.
func TestIsEvenAndModel(t *testing.T) {
	count := map[string]int{}
	eachJoined(func(b string) {
		want := "0 false"
		if numbers := slices.Compact(joinedOf(b).numbers()); len(numbers) == 1 {
			want = told(numbers[0], true)
		}
		checkCases(t, []boardCase{{"IsEven " + b, two(impl.IsEven(b)), want}})
		count[want]++
	})
	if len(count) < 4 {
		t.Errorf("IsEven is tried only for %v", count)
	}
}

// TestFewestJoinedClicks tries all sets of clicks on boards with few free cells: no fewer ones open all of them.
func TestFewestJoinedClicks(t *testing.T) {
	count := 0
	try := func(b string) {
		m := joinedOf(b)
		if len(m.pick(m.isFree)) > 11 {
			return
		}
		count++
		open := openBySets(t, b, m, impl.JoinedOpened)
		clicks, ok := impl.JoinedClicks(b)
		same(t, "JoinedClicks "+b, clicks, ok, fewestFor(open, 0, open[len(open)-1]))
	}
	eachJoined(try)
	// Boards with mines in the last row and column alone, and so with zeros, shifted in all ways.
	for row := range uint64(16) {
		try(textOfBits(3, 4, row<<9))
		for column := range uint64(8) {
			b := textOfBits(4, 4, row<<12|column&1<<3|column&2<<6|column&4<<9)
			try(shiftedText(b, int(row%4), int(column%4)))
		}
	}
	if count < 600 {
		t.Errorf("only %d boards were tried", count)
	}
}

// TestSameJoinedAndModel holds boards with the same numbers against all boards of their size.
func TestSameJoinedAndModel(t *testing.T) {
	for _, s := range joinedSizes() {
		t.Run(fmt.Sprintf("%d by %d", s.width, s.height), func(t *testing.T) {
			t.Parallel()
			// All boards are tried where they are few, and some where they are many.
			for i := 0; i < len(s.boards); i += 1 + len(s.boards)/128 {
				checkSameJoined(t, s, s.boards[i])
			}
			// So are those that have more boards with the same numbers than all before.
			for i, most := 0, 1; i < len(s.boards); i++ {
				if count := len(s.same(s.boards[i])); count > most {
					most = count
					checkSameJoined(t, s, s.boards[i])
				}
			}
		})
	}
}

func checkSameJoined(t *testing.T, s joinedSize, b string) {
	t.Helper()
	got, ok := impl.SameJoined(b)
	same(t, "SameJoined "+b, got, ok, s.same(b))
	want, _ := impl.JoinedNumbers(b)
	for _, other := range got {
		numbers, ok := impl.JoinedNumbers(other)
		same(t, "JoinedNumbers "+other, numbers, ok, want)
	}
	if !slices.Contains(got, b) {
		t.Fatalf("SameJoined %s: %v", b, got)
	}
}

// TestEvenBoardsAndModel holds even boards of each size and number against all boards of this size.
func TestEvenBoardsAndModel(t *testing.T) {
	for _, s := range joinedSizes() {
		for number := range 9 {
			call := fmt.Sprintf("EvenBoards %d %d %d", s.width, s.height, number)
			got, ok := impl.EvenBoards(s.width, s.height, number)
			want := s.even(number)
			if !ok || !slices.Equal(got, want) {
				t.Fatalf("%s: %v %v, want %v", call, got, ok, want)
			}
			for _, b := range got {
				even, ok := impl.IsEven(b)
				same(t, "IsEven "+b, even, ok, number)
				alike, ok := impl.SameJoined(b)
				same(t, "SameJoined "+b, alike, ok, got)
			}
		}
	}
}
