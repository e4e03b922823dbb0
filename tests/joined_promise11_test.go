package tests

import (
	"fmt"
	"runtime"
	"testing"

	"loop.example/g01294/impl"
)

// callChapter8 calls every function of chapter 8, and tells what they return.
func callChapter8(a string, b string, x int, y int, number int) string {
	return told(
		callJoined(a), callJoinedCell(a, x), two(impl.ShiftBoard(a, x, y)), two(impl.AreShifted(a, b)),
		two(impl.EvenBoards(x, y, number)))
}

// joinedTexts are joined boards, others, and texts that are none.
func joinedTexts() []string {
	texts := append(noBoards(), noJoinedBoards()...)
	return append(texts, ".../.../...", "***/***/***", "*../.../..*", "*.*./.*.*/*.*./.*.*", "..../*.../....", "*..*./.**../*.*.*/*...*", "......../..*...../........", full("."), full("*"))
}

// TestPromise11AllArgumentsToJoined: no function panics, and each returns the same again.
func TestPromise11AllArgumentsToJoined(t *testing.T) {
	texts := joinedTexts()
	ints := append(oddInts(), 2, 3, 4, 5, 6)
	for i, a := range texts {
		for k, x := range ints {
			b := texts[(i*7+k*11+3)%len(texts)]
			y, number := ints[(i+k*5)%len(ints)], ints[(i*3+k*7)%len(ints)]
			first := callChapter8(a, b, x, y, number)
			if k%4 == 0 && callChapter8(a, b, x, y, number) != first {
				t.Fatalf("chapter 8 returns others for %.100q %.100q %d %d %d", a, b, x, y, number)
			}
		}
	}
	for _, x := range ints {
		for _, y := range ints {
			impl.ShiftBoard("*..*./.**../*.*.*/*...*", x, y)
			for _, number := range ints {
				impl.EvenBoards(x, y, number)
			}
		}
	}
}

// TestPromise11FreshJoined: a result that is changed changes no other one, now or in a later call.
func TestPromise11FreshJoined(t *testing.T) {
	b := "..*...*./..*...*./..*...*."
	checkFresh(t, map[string]func() []int{
		"JoinedNeighbours": func() []int { list, _ := impl.JoinedNeighbours(b, 0); return list },
		"JoinedNumbers":    func() []int { list, _ := impl.JoinedNumbers(b); return list },
		"JoinedOpened":     func() []int { list, _ := impl.JoinedOpened(b, 0); return list },
	})
	checkFreshLists(t, "ShiftsKept", func() [][]int { lists, _ := impl.ShiftsKept(b); return lists })
	checkFreshLists(t, "JoinedGroups", func() [][]int { lists, _ := impl.JoinedGroups(b); return lists })
	checkFreshTexts(t, "SameJoined", func() []string { boards, _ := impl.SameJoined("*.../.*../..*./...*"); return boards })
	checkFreshTexts(t, "EvenBoards", func() []string { boards, _ := impl.EvenBoards(4, 4, 4); return boards })
}

// checkFreshTexts: texts that a call returns are its own.
func checkFreshTexts(t *testing.T, name string, call func() []string) {
	t.Helper()
	texts := call()
	before := fmt.Sprint(texts)
	if len(texts) == 0 {
		t.Errorf("%s returns nothing that could be changed", name)
	}
	for i := range texts {
		texts[i] = "?"
	}
	if again := fmt.Sprint(call()); again != before {
		t.Errorf("%s: %s, %s when called again", name, before, again)
	}
}

// TestNothingShiftsOn: no goroutine is left behind by calls, whether they succeed or fail.
func TestNothingShiftsOn(t *testing.T) {
	before := runtime.NumGoroutine()
	for range 50 {
		for _, b := range []string{"*../.../...", full("."), "*..*./.**../*.*.*/*...*", "*..", ""} {
			impl.LeastShift(b)
			impl.AreShifted(b, "*../.../...")
			impl.SameJoined(b)
		}
		impl.EvenBoards(4, 4, 1)
		impl.EvenBoards(5, 5, 1)
	}
	checkGoroutines(t, before)
}

// TestJoinedAtOnce: calls that go on beside each other return what each of them does alone.
func TestJoinedAtOnce(t *testing.T) {
	boards := []string{"*../.../...", "*.*./.*.*/*.*./.*.*", "*..*./.**../*.*.*/*...*", "......../......../........", full("*"), "***/***/**."}
	checkAtOnce(t, len(boards), func(i int) string { return callChapter8(boards[i], boards[0], 3, 2, 4) })
}
