package tests

import (
	"fmt"
	"slices"
	"strings"
	"testing"

	"loop.example/g01294/impl"
)

// TestPromise1Numbers: numbers tell the mines beside a cell.
func TestPromise1Numbers(t *testing.T) {
	eachBoard(func(b string) {
		m := modelOf(b)
		numbers, ok := impl.NumbersOf(b)
		if !ok || len(numbers) != m.cells() {
			t.Fatalf("NumbersOf %s: %v %v", b, numbers, ok)
		}
		for cell, number := range numbers {
			near, nearOK := impl.NeighboursOf(b, cell)
			same(t, fmt.Sprintf("NeighboursOf %s %d", b, cell), near, nearOK, m.near(cell))
			at, atOK := impl.NumberAt(b, cell)
			same(t, fmt.Sprintf("NumberAt %s %d", b, cell), at, atOK, m.number(cell))
			if number != at {
				t.Fatalf("NumbersOf %s: %d in the cell %d, NumberAt %d", b, number, cell, at)
			}
		}
		picture, ok := impl.PictureOf(b)
		same(t, "PictureOf "+b, picture, ok, m.picture())
	})
}

// TestPromise1Sums: sums are the same on the other board, and are those of the picture.
func TestPromise1Sums(t *testing.T) {
	eachBoard(func(b string) {
		m := modelOf(b)
		want := 0
		for cell := range m.cells() {
			if !m.hasMine(cell) {
				want += m.number(cell)
			}
		}
		sum, ok := impl.SumOfNumbers(b)
		same(t, "SumOfNumbers "+b, sum, ok, want)
		other, ok := impl.OtherBoard(b)
		same(t, "OtherBoard "+b, other, ok, strings.NewReplacer(".", "*", "*", ".").Replace(b))
		otherSum, ok := impl.SumOfNumbers(other)
		same(t, "SumOfNumbers "+other, otherSum, ok, sum)
	})
}

// TestBoardCells holds the functions that list cells against the model.
func TestBoardCells(t *testing.T) {
	eachBoard(func(b string) {
		m := modelOf(b)
		if !impl.IsBoard(b) {
			t.Fatalf("IsBoard %s", b)
		}
		width, height, ok := impl.SizeOf(b)
		same(t, "SizeOf "+b, []int{width, height}, ok, []int{m.width, m.height})
		mines, ok := impl.MinesOf(b)
		same(t, "MinesOf "+b, mines, ok, m.pick(m.hasMine))
		count, ok := impl.CountMines(b)
		same(t, "CountMines "+b, count, ok, strings.Count(b, "*"))
		again, ok := impl.BoardOfMines(width, height, mines)
		same(t, fmt.Sprintf("BoardOfMines %d %d %v", width, height, mines), again, ok, b)
		zeros, ok := impl.ZerosOf(b)
		same(t, "ZerosOf "+b, zeros, ok, m.pick(func(cell int) bool { return !m.hasMine(cell) && m.number(cell) == 0 }))
		lonely, ok := impl.LonelyMines(b)
		same(t, "LonelyMines "+b, lonely, ok, m.pick(func(cell int) bool { return m.hasMine(cell) && m.number(cell) == 0 }))
		groups, ok := impl.GroupsOfMines(b)
		same(t, "GroupsOfMines "+b, groups, ok, m.groups())
	})
}

// TestBoardChanges holds the boards with a mine put in or taken out, mirrored and turned ones against their texts.
func TestBoardChanges(t *testing.T) {
	eachBoard(func(b string) {
		m := modelOf(b)
		for cell := range m.cells() {
			checkPutAndTake(t, b, m, cell)
		}
		rows := strings.Split(b, "/")
		for i, row := range rows {
			signs := []byte(row)
			slices.Reverse(signs)
			rows[i] = string(signs)
		}
		mirrored, ok := impl.MirrorBoard(b)
		same(t, "MirrorBoard "+b, mirrored, ok, strings.Join(rows, "/"))
		turned, ok := impl.TurnBoard(b)
		same(t, "TurnBoard "+b, turned, ok, turnedText(strings.Split(b, "/")))
		for range 3 {
			turned, _ = impl.TurnBoard(turned)
		}
		if turned != b {
			t.Fatalf("TurnBoard %s: %s when turned four times", b, turned)
		}
	})
}

func checkPutAndTake(t *testing.T, b string, m model, cell int) {
	t.Helper()
	put, putOK := impl.PutMine(b, cell)
	taken, takenOK := impl.TakeMine(b, cell)
	at := cell + cell/m.width
	if m.hasMine(cell) {
		same(t, fmt.Sprintf("TakeMine %s %d", b, cell), taken, takenOK, b[:at]+"."+b[at+1:])
		if put != "" || putOK {
			t.Fatalf("PutMine %s %d: %q %v in a mine", b, cell, put, putOK)
		}
		return
	}
	same(t, fmt.Sprintf("PutMine %s %d", b, cell), put, putOK, b[:at]+"*"+b[at+1:])
	if taken != "" || takenOK {
		t.Fatalf("TakeMine %s %d: %q %v in a free cell", b, cell, taken, takenOK)
	}
}

// turnedText tells each column from below as a row.
func turnedText(rows []string) string {
	var out []string
	for column := range rows[0] {
		signs := ""
		for _, row := range rows {
			signs = row[column:column+1] + signs
		}
		out = append(out, signs)
	}
	return strings.Join(out, "/")
}

// TestBesideBoards joins some boards of all sizes.
func TestBesideBoards(t *testing.T) {
	for left := 1; left <= 8; left++ {
		for right := 1; right <= 8; right++ {
			for height := 1; height <= 8; height++ {
				checkBeside(t, textOfBits(left, height, 0x9d3c5a7e1b64f082), textOfBits(right, height, 0x3b61e0d5c7a2984f))
			}
		}
	}
}

func checkBeside(t *testing.T, a string, b string) {
	t.Helper()
	behind := strings.Split(b, "/")
	rows := strings.Split(a, "/")
	for i := range rows {
		rows[i] += behind[i]
	}
	got, ok := impl.BesideBoard(a, b)
	if len(rows[0]) <= 8 {
		same(t, "BesideBoard "+a+" "+b, got, ok, strings.Join(rows, "/"))
		return
	}
	if got != "" || ok {
		t.Fatalf("BesideBoard %s %s: %q %v, a row is too long", a, b, got, ok)
	}
}
