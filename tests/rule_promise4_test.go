package tests

import (
	"fmt"
	"slices"
	"strings"
	"testing"

	"loop.example/g01294/impl"
)

// TestPromise4Finds: what single cells and pairs find is so in each board that agrees.
func TestPromise4Finds(t *testing.T) {
	eachNotes(func(v string) {
		m := notesModelOf(v)
		boards := m.boards()
		open := m.pick(m.isOpen)
		for _, a := range open {
			mines, free, ok := impl.SingleFinds(v, a)
			if len(boards) > 0 && !ok {
				t.Fatalf("SingleFinds %s %d fails, and %s agrees", v, a, boards[0])
			}
			checkSoIn(t, fmt.Sprintf("SingleFinds %s %d", v, a), boards, mines, free)
			for _, b := range open {
				mines, free, ok := impl.PairFinds(v, a, b)
				if len(boards) > 0 && ok != (a != b) {
					t.Fatalf("PairFinds %s %d %d: %v, and %s agrees", v, a, b, ok, boards[0])
				}
				checkSoIn(t, fmt.Sprintf("PairFinds %s %d %d", v, a, b), boards, mines, free)
			}
		}
	})
}

// checkSoIn: all boards have mines in some cells, and none in others.
func checkSoIn(t *testing.T, call string, boards []string, mines []int, free []int) {
	t.Helper()
	for _, b := range boards {
		cells := strings.ReplaceAll(b, "/", "")
		for _, cell := range mines {
			if cells[cell] != '*' {
				t.Fatalf("%s: a mine in %d, none in %s", call, cell, b)
			}
		}
		for _, cell := range free {
			if cells[cell] != '.' {
				t.Fatalf("%s: none in %d, a mine in %s", call, cell, b)
			}
		}
	}
}

// TestPromise4Steps: a board that agrees does so behind each step and at the end, where no rule finds more.
func TestPromise4Steps(t *testing.T) {
	eachNotes(func(v string) {
		boards := notesModelOf(v).boards()
		if len(boards) == 0 {
			return
		}
		for _, pairs := range []bool{false, true} {
			steps, at := 0, v
			for next, ok := impl.StepByRule(at, pairs); ok; next, ok = impl.StepByRule(at, pairs) {
				steps, at = steps+1, next
				if steps > len(v) {
					t.Fatalf("StepByRule %s %v: %d steps and more", v, pairs, steps)
				}
				checkAllAgree(t, fmt.Sprintf("StepByRule %s %v, step %d", v, pairs, steps), at, boards)
			}
			end, ok := impl.FindByRules(v, pairs)
			same(t, fmt.Sprintf("FindByRules %s %v", v, pairs), end, ok, at)
			count, ok := impl.CountSteps(v, pairs)
			same(t, fmt.Sprintf("CountSteps %s %v", v, pairs), count, ok, steps)
			if cell, ok := impl.FirstSingle(end); ok {
				t.Fatalf("FindByRules %s %v: %s, and the cell %d finds more", v, pairs, end, cell)
			}
			if a, b, ok := impl.FirstPair(end); ok && pairs {
				t.Fatalf("FindByRules %s %v: %s, and the pair %d %d finds more", v, pairs, end, a, b)
			}
		}
	})
}

// checkAllAgree: some boards agree with notes, and no others do.
func checkAllAgree(t *testing.T, call string, v string, boards []string) {
	t.Helper()
	for _, b := range boards {
		agrees, ok := impl.DoesAgree(v, b)
		same(t, call+": DoesAgree "+v+" "+b, agrees, ok, true)
	}
	same(t, call+": boards of "+v, notesModelOf(v).boards(), true, boards)
}

// TestPromise4BoardsThatAgree: they are just those with what is noted and the numbers of open cells, out of all boards of the size.
func TestPromise4BoardsThatAgree(t *testing.T) {
	eachNotes(func(v string) {
		m := notesModelOf(v)
		if m.cells() > 6 {
			return
		}
		var agree []string
		for bits := range uint64(1) << m.cells() {
			b := textOfBits(m.width, m.height, bits)
			agrees, ok := impl.DoesAgree(v, b)
			same(t, "DoesAgree "+v+" "+b, agrees, ok, m.agreesWith(b))
			if agrees {
				agree = append(agree, b)
			}
		}
		want := m.boards()
		slices.Sort(agree)
		slices.Sort(want)
		same(t, "boards that agree with "+v, agree, true, want)
	})
}

// TestPromise4OtherCells: a board that agrees does so no more if a noted or an open cell is another one.
func TestPromise4OtherCells(t *testing.T) {
	eachNotes(func(v string) {
		m := notesModelOf(v)
		for _, b := range m.boards() {
			for cell := range m.cells() {
				other, ok := impl.PutMine(b, cell)
				if !ok {
					other, _ = impl.TakeMine(b, cell)
				}
				agrees, ok := impl.DoesAgree(v, other)
				same(t, "DoesAgree "+v+" "+other, agrees, ok, m.agreesWith(other))
				if agrees && !m.isUnknown(cell) {
					t.Fatalf("DoesAgree %s %s: the cell %d is another one in %s", v, other, cell, b)
				}
			}
			return
		}
	})
}

// TestNotesAndModel holds all functions of notes against the model.
func TestNotesAndModel(t *testing.T) {
	eachNotes(func(v string) {
		m := notesModelOf(v)
		checkNotes(t, m)
		for cell := range m.cells() {
			checkNotesCell(t, m, cell)
		}
		for _, pairs := range []bool{false, true} {
			checkSteps(t, m, pairs)
		}
	})
}

// checkNotes holds the functions of notes alone against the model.
func checkNotes(t *testing.T, m notesModel) {
	t.Helper()
	v := m.v
	unknown := m.pick(m.isUnknown)
	single, pair := "0 false", "0 0 false"
	if singles := m.singles(); m.isSound() && len(singles) > 0 {
		single = told(singles[0], true)
	}
	if pairs := m.pairs(); m.isSound() && len(pairs) > 0 {
		pair = told(pairs[0][0], pairs[0][1], true)
	}
	checkCases(t, []boardCase{
		{"IsNotes " + v, told(impl.IsNotes(v)), "true"},
		{"UnknownOf " + v, two(impl.UnknownOf(v)), told(unknown, true)},
		{"IsSound " + v, two(impl.IsSound(v)), told(m.isSound(), true)},
		{"NoteMines " + v, two(impl.NoteMines(v, unknown)), m.noted(unknown, "*") + " true"},
		{"NoteFree " + v, two(impl.NoteFree(v, unknown)), m.noted(unknown, ".") + " true"},
		{"FirstSingle " + v, two(impl.FirstSingle(v)), single},
		{"FirstPair " + v, three(impl.FirstPair(v)), pair},
		{"IsDone " + v, two(impl.IsDone(v)), told(len(unknown) == 0, true)},
	})
}

// checkNotesCell holds the functions of notes and a cell, and of its pairs with all others, against the model.
func checkNotesCell(t *testing.T, m notesModel, cell int) {
	t.Helper()
	call := fmt.Sprintf(" %s %d", m.v, cell)
	finds := m.isOpen(cell) && m.isSound()
	rest, single := "0 false", "[] [] false"
	if m.isOpen(cell) {
		rest = told(m.rest(cell), true)
	}
	if finds {
		single = m.single(cell).told()
	}
	noteMines, noteFree := " false", " false"
	if m.isUnknown(cell) {
		noteMines, noteFree = m.noted([]int{cell}, "*")+" true", m.noted([]int{cell}, ".")+" true"
	}
	checkCases(t, []boardCase{
		{"UnknownNear" + call, two(impl.UnknownNear(m.v, cell)), told(m.unknownNear(cell), true)},
		{"RestAt" + call, two(impl.RestAt(m.v, cell)), rest},
		{"SingleFinds" + call, three(impl.SingleFinds(m.v, cell)), single},
		{"NoteMines" + call, two(impl.NoteMines(m.v, []int{cell})), noteMines},
		{"NoteFree" + call, two(impl.NoteFree(m.v, []int{cell})), noteFree},
	})
	for other := range m.cells() {
		want := "[] [] false"
		if finds && m.isOpen(other) && cell != other {
			want = m.pair(cell, other).told()
		}
		checkCases(t, []boardCase{{fmt.Sprint("PairFinds", call, " ", other), three(impl.PairFinds(m.v, cell, other)), want}})
	}
}

// checkSteps holds steps by rules against the model.
func checkSteps(t *testing.T, m notesModel, pairs bool) {
	t.Helper()
	call := fmt.Sprintf(" %s %v", m.v, pairs)
	step := " false"
	if next := m.step(pairs); m.isSound() && next != m.v {
		step = next + " true"
	}
	end, steps, ok := m.find(pairs)
	checkCases(t, []boardCase{
		{"StepByRule" + call, two(impl.StepByRule(m.v, pairs)), step},
		{"FindByRules" + call, two(impl.FindByRules(m.v, pairs)), told(end, ok)},
		{"CountSteps" + call, two(impl.CountSteps(m.v, pairs)), told(steps, ok)},
	})
}

// TestNotesOfTheModel: the notes that the other tests try have all that could go wrong among them.
func TestNotesOfTheModel(t *testing.T) {
	count := map[string]int{}
	eachNotes(func(v string) {
		m := notesModelOf(v)
		alone, stepsAlone, aloneOK := m.find(false)
		paired, stepsPaired, pairedOK := m.find(true)
		for what, is := range map[string]bool{
			"a board agrees":                    len(m.boards()) > 0,
			"not sound":                         !m.isSound(),
			"not sound behind a step":           m.isSound() && !aloneOK,
			"not sound behind a pair":           aloneOK && !pairedOK,
			"no board agrees, and rules go on":  pairedOK && len(m.boards()) == 0,
			"pairs find more":                   pairedOK && alone != paired,
			"pairs find more, then single ones": pairedOK && stepsPaired > stepsAlone+1,
			"nothing is found of some":          pairedOK && stepsPaired == 0 && strings.Contains(v, "?"),
			"all is found in some steps":        pairedOK && stepsPaired > 2 && !strings.Contains(paired, "?"),
		} {
			if is {
				count[what]++
			}
		}
	})
	if len(count) != 9 {
		t.Errorf("there are only %v", count)
	}
	for what, notes := range count {
		if notes < 20 {
			t.Errorf("%s: in %d notes only", what, notes)
		}
	}
}
