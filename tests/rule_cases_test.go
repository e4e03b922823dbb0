package tests

import (
	"fmt"
	"regexp"
	"strings"
	"testing"

	"loop.example/g01294/impl"
)

func TestRuleExample(t *testing.T) {
	checkCases(t, []boardCase{
		{"SingleFinds 1?/11", three(impl.SingleFinds("1?/11", 0)), "[1] [] true"},
		{"FirstSingle ???/121", two(impl.FirstSingle("???/121")), "0 false"},
		{"PairFinds 3 4", three(impl.PairFinds("???/121", 3, 4)), "[2] [] true"},
		{"PairFinds 5 4", three(impl.PairFinds("???/121", 5, 4)), "[0] [] true"},
		{"FindByRules with pairs", two(impl.FindByRules("???/121", true)), "*.*/121 true"},
		{"FindByRules ?1?", two(impl.FindByRules("?1?", true)), "?1? true"},
		{"CountSteps ?1?", two(impl.CountSteps("?1?", true)), "0 true"},
		{"IsSound 2?", two(impl.IsSound("2?")), "false true"},
	})
}

func TestOrdinaryNotes(t *testing.T) {
	v, b := "?21?/??.*/1.2?", "*.../*..*/...*"
	checkCases(t, []boardCase{
		{"IsNotes", told(impl.IsNotes(v)), "true"},
		{"UnknownOf", two(impl.UnknownOf(v)), "[0 3 4 5 11] true"},
		{"UnknownNear an open cell", two(impl.UnknownNear(v, 1)), "[0 4 5] true"},
		{"UnknownNear an unknown cell", two(impl.UnknownNear(v, 0)), "[4 5] true"},
		{"UnknownNear a cell noted as a mine", two(impl.UnknownNear(v, 7)), "[3 11] true"},
		{"UnknownNear a cell noted as free", two(impl.UnknownNear(v, 6)), "[3 5 11] true"},
		{"RestAt", two(impl.RestAt(v, 1)), "2 true"},
		{"RestAt beside a mine", two(impl.RestAt(v, 2)), "0 true"},
		{"RestAt the last open cell", two(impl.RestAt(v, 10)), "1 true"},
		{"RestAt an unknown cell", two(impl.RestAt(v, 0)), "0 false"},
		{"RestAt a cell noted as a mine", two(impl.RestAt(v, 7)), "0 false"},
		{"RestAt a cell noted as free", two(impl.RestAt(v, 6)), "0 false"},
		{"IsSound", two(impl.IsSound(v)), "true true"},
		{"SingleFinds", three(impl.SingleFinds(v, 2)), "[] [3 5] true"},
		{"SingleFinds nothing", three(impl.SingleFinds(v, 1)), "[] [] true"},
		{"SingleFinds of an unknown cell", three(impl.SingleFinds(v, 3)), "[] [] false"},
		{"SingleFinds of a noted cell", three(impl.SingleFinds(v, 7)), "[] [] false"},
		{"PairFinds", three(impl.PairFinds(v, 8, 1)), "[0] [] true"},
		{"PairFinds nothing the other way", three(impl.PairFinds(v, 1, 8)), "[] [] true"},
		{"PairFinds of an unknown cell", three(impl.PairFinds(v, 8, 0)), "[] [] false"},
		{"PairFinds of a noted cell", three(impl.PairFinds(v, 9, 1)), "[] [] false"},
		{"NoteMines", two(impl.NoteMines(v, []int{0, 4, 11})), "*21?/*?.*/1.2* true"},
		{"NoteFree", two(impl.NoteFree(v, []int{3, 5})), "?21./?..*/1.2? true"},
		{"FirstSingle", two(impl.FirstSingle(v)), "2 true"},
		{"FirstPair", three(impl.FirstPair(v)), "8 1 true"},
		{"StepByRule", two(impl.StepByRule(v, false)), "?21./?..*/1.2? true"},
		{"StepByRule, where pairs find something as well", two(impl.StepByRule(v, true)), "?21./?..*/1.2? true"},
		{"FindByRules", two(impl.FindByRules(v, false)), "*21./*..*/1.2* true"},
		{"CountSteps", two(impl.CountSteps(v, true)), "3 true"},
		{"IsDone", two(impl.IsDone(v)), "false true"},
		{"IsDone at the end", two(impl.IsDone("*21./*..*/1.2*")), "true true"},
		{"DoesAgree", two(impl.DoesAgree(v, b)), "true true"},
		{"DoesAgree without a noted mine", two(impl.DoesAgree(v, "*.../*.../...*")), "false true"},
		{"DoesAgree with a mine in a cell noted as free", two(impl.DoesAgree(v, "*.../..**/...*")), "false true"},
		{"DoesAgree with a mine in an open cell", two(impl.DoesAgree(v, "**../*..*/...*")), "false true"},
		{"DoesAgree with other numbers", two(impl.DoesAgree(v, "*..*/*..*/...*")), "false true"},
	})
}

// TestSingleRules: single cells find all of their unknown neighbours or none.
func TestSingleRules(t *testing.T) {
	cases := []struct {
		v    string
		cell int
		want string
	}{
		{"?0?", 1, "[] [0 2] true"}, {"?1?", 1, "[] [] true"}, {"?2?", 1, "[0 2] [] true"},
		{"*1?", 1, "[] [2] true"}, {"*2?", 1, "[2] [] true"}, {".1?", 1, "[2] [] true"}, {".0?", 1, "[] [2] true"},
		{"*1*", 1, "[] [] false"}, {"*2*", 1, "[] [] true"}, {".0.", 1, "[] [] true"}, {"0", 0, "[] [] true"}, {"000", 1, "[] [] true"},
		{"???/?0?/???", 4, "[] [0 1 2 3 5 6 7 8] true"}, {"???/?7?/???", 4, "[] [] true"}, {"???/?8?/???", 4, "[0 1 2 3 5 6 7 8] [] true"},
		{"*.*/?8?/***", 4, "[] [] false"}, {"***/?8?/***", 4, "[3 5] [] true"}, {"***/?6?/***", 4, "[] [3 5] true"},
	}
	for _, c := range cases {
		checkCases(t, []boardCase{{fmt.Sprintf("SingleFinds %s %d", c.v, c.cell), three(impl.SingleFinds(c.v, c.cell)), c.want}})
	}
}

// TestPairRules: the second cell of a pair finds what the first one has not beside it, if there is anything.
func TestPairRules(t *testing.T) {
	cases := []struct {
		v    string
		a    int
		b    int
		want string
	}{
		{"???/121", 3, 4, "[2] [] true"}, {"???/121", 4, 3, "[] [] true"}, {"???/121", 4, 5, "[] [] true"}, {"???/121", 3, 5, "[] [] true"},
		{"???/111", 3, 4, "[] [2] true"}, {"???/111", 4, 3, "[] [] true"}, {"???/111", 5, 4, "[] [0] true"},
		{"1?1?", 0, 2, "[] [3] true"}, {"1?1?", 2, 0, "[] [] true"}, {"1?2?", 0, 2, "[3] [] true"},
		{"?1?1?1?", 1, 3, "[] [] true"}, {"1?1", 0, 2, "[] [] true"}, {"1?1", 2, 0, "[] [] true"},
		// The rest of the second cell may be the smaller one, or greater by too few.
		{"1?0?", 0, 2, "[] [] true"}, {"1?0/...", 0, 2, "[] [] true"}, {"1?./.2?/.??", 0, 4, "[] [] true"}, {"1?./.3?/.??", 0, 4, "[] [] true"},
		{"1?./.4?/.??", 0, 4, "[5 7 8] [] true"}, {"1?./.1?/.??", 0, 4, "[] [5 7 8] true"},
		// Mines that are noted count for rests, not for what is beside the cells.
		{"*2?1?", 1, 3, "[] [4] true"}, {"*2?2?", 1, 3, "[4] [] true"}, {"*2?2*", 1, 3, "[] [] true"},
		// A first cell with no unknown neighbours has all of them beside any other cell.
		{"0.1?", 0, 2, "[3] [] true"}, {"0.0?", 0, 2, "[] [3] true"}, {"*1.2?", 1, 3, "[] [] false"}, {"*1.1?", 1, 3, "[4] [] true"},
		{"0.?1?", 0, 3, "[] [] true"}, {"0.?2?", 0, 3, "[2 4] [] true"}, {"0.?2?", 3, 0, "[] [] true"}, {"00", 0, 1, "[] [] true"},
		// These have no cell in common.
		{"?1..1?", 1, 4, "[] [] true"}, {"?1..1?", 4, 1, "[] [] true"}, {"?/0/./././0/?", 1, 5, "[] [] true"}, {"?/0/./././0/?", 5, 1, "[] [] true"},
		// Or some of them.
		{"?1?1?", 1, 3, "[] [] true"}, {"?1?2?", 1, 3, "[] [] true"},
		// The same cell is no pair.
		{"1?1?", 0, 0, "[] [] false"}, {"???/121", 4, 4, "[] [] false"}, {"0", 0, 0, "[] [] false"},
	}
	for _, c := range cases {
		checkCases(t, []boardCase{{fmt.Sprintf("PairFinds %s %d %d", c.v, c.a, c.b), three(impl.PairFinds(c.v, c.a, c.b)), c.want}})
	}
	checkCases(t, []boardCase{
		{"FirstPair ???/121", three(impl.FirstPair("???/121")), "3 4 true"},
		{"FirstPair 121/???", three(impl.FirstPair("121/???")), "0 1 true"},
		{"FirstPair ?1?1/....", three(impl.FirstPair("?1?1/....")), "3 1 true"},
		{"FirstPair in the order of the first cells", three(impl.FirstPair("1..?1?1./?......./1......./?.......")), "0 16 true"},
		{"FirstPair in the order of the second cells", three(impl.FirstPair("1?./.11/??.")), "0 4 true"},
		{"FirstPair of one cell with two others", three(impl.FirstPair("?1./.?1/?1.")), "5 1 true"},
		{"FirstPair with no unknown neighbours", three(impl.FirstPair("0.1?")), "0 2 true"},
		{"FirstPair of one open cell", three(impl.FirstPair("?0?")), "0 0 false"},
		{"FirstPair of notes that no board agrees with", three(impl.FirstPair("???./1210")), "4 5 true"},
		{"FirstPair of notes that are not sound", three(impl.FirstPair("???./1212")), "0 0 false"},
	})
}

// TestRests: they are below 0 if more mines are noted than there should be.
func TestRests(t *testing.T) {
	cases := []struct {
		v     string
		cell  int
		rest  int
		sound bool
	}{
		{"0", 0, 0, true}, {"1", 0, 1, false}, {"8", 0, 8, false}, {"0?", 0, 0, true}, {"1?", 0, 1, true}, {"2?", 0, 2, false},
		{"0*", 0, -1, false}, {"1*", 0, 0, true}, {"2*", 0, 1, false}, {"0.", 0, 0, true}, {"1.", 0, 1, false},
		{"***/*0*/***", 4, -8, false}, {"***/*7*/***", 4, -1, false}, {"***/*8*/***", 4, 0, true},
		{"???/?0?/???", 4, 0, true}, {"???/?8?/???", 4, 8, true}, {"???/?8?/??.", 4, 8, false}, {"*??/?8?/???", 4, 7, true},
		{"?/1/?", 1, 1, true}, {"?/2/?", 1, 2, true}, {"?/3/?", 1, 3, false}, {"*/0/?", 1, -1, false}, {"*/1/?", 1, 0, true},
		{full("0")[:70] + "*", 54, -1, false}, {full("0")[:70] + "?", 54, 0, true}, {full("0")[:70] + "?", 0, 0, true},
	}
	for _, c := range cases {
		call := fmt.Sprintf(" %s %d", c.v, c.cell)
		checkCases(t, []boardCase{
			{"RestAt" + call, two(impl.RestAt(c.v, c.cell)), told(c.rest, true)},
			{"IsSound " + c.v, two(impl.IsSound(c.v)), told(c.sound, true)},
		})
		if _, _, ok := impl.SingleFinds(c.v, c.cell); ok != c.sound {
			t.Errorf("SingleFinds%s: %v", call, ok)
		}
	}
}

// TestNotesThatAreNotSound: a step from them fails, also if one cell alone is not sound and others would find something.
func TestNotesThatAreNotSound(t *testing.T) {
	for _, v := range []string{"2?", "1", "0*?0", "?0?.1", "1.?0", "0?.*0", "???/121/.../..1", "8" + full("?")[1:]} {
		cell := strings.IndexAny(strings.ReplaceAll(v, "/", ""), "012")
		checkCases(t, []boardCase{
			{"IsNotes " + v, told(impl.IsNotes(v)), "true"},
			{"IsSound " + v, two(impl.IsSound(v)), "false true"},
			{"SingleFinds " + v, three(impl.SingleFinds(v, max(cell, 0))), "[] [] false"},
			{"NoteMines none " + v, two(impl.NoteMines(v, nil)), v + " true"},
			{"NoteFree none " + v, two(impl.NoteFree(v, nil)), v + " true"},
			{"FirstSingle " + v, two(impl.FirstSingle(v)), "0 false"},
			{"FirstPair " + v, three(impl.FirstPair(v)), "0 0 false"},
			{"with pairs " + v, callSteps(v, true), stepsFail},
			{"without pairs " + v, callSteps(v, false), stepsFail},
		})
	}
	checkCases(t, []boardCase{
		{"PairFinds of notes that are not sound", three(impl.PairFinds("1?1?.1", 0, 2)), "[] [] false"},
		{"PairFinds of the same that are", three(impl.PairFinds("1?1?.0", 0, 2)), "[] [3] true"},
		{"PairFinds where the first cell is not sound", three(impl.PairFinds("*0?1?", 1, 3)), "[] [] false"},
	})
}

// callSteps calls every function of chapter 4 that goes on by rules.
func callSteps(v string, pairs bool) string {
	return told(two(impl.StepByRule(v, pairs)), two(impl.FindByRules(v, pairs)), two(impl.CountSteps(v, pairs)))
}

const stepsFail = " false  false 0 false"

// TestSteps tells what stands behind one step, behind all of them, and how many there are.
func TestSteps(t *testing.T) {
	cases := []struct {
		v     string
		alone string
		pairs string
	}{
		{"???/121", " false ???/121 true 0 true", "??*/121 true *.*/121 true 3 true"},
		{"???/111", " false ???/111 true 0 true", "??./111 true .*./111 true 3 true"},
		{"1?", "1* true 1* true 1 true", "1* true 1* true 1 true"},
		{"0?", "0. true 0. true 1 true", "0. true 0. true 1 true"},
		{"?1?1?1?0", "?1?1?1.0 true *1.1*1.0 true 4 true", "?1?1?1.0 true *1.1*1.0 true 4 true"},
		{"1?1?1", "1*1?1 true  false 0 false", "1*1?1 true  false 0 false"},
		{"1?1?0", "1*1?0 true 1*1.0 true 2 true", "1*1?0 true 1*1.0 true 2 true"},
		// One step notes all that one cell finds, and nothing that others find.
		{"0??0", "0.?0 true 0..0 true 2 true", "0.?0 true 0..0 true 2 true"},
		{"?0?.?0?", ".0..?0? true .0...0. true 2 true", ".0..?0? true .0...0. true 2 true"},
		{"?2?.?2?", "*2*.?2? true *2*.*2* true 2 true", "*2*.?2? true *2*.*2* true 2 true"},
		// Not sound behind a step, with nothing left to be found, or with more.
		{"0?1", "0.1 true  false 0 false", "0.1 true  false 0 false"},
		{"0?2?.0?", "0.2?.0? true  false 0 false", "0.2?.0? true  false 0 false"},
		{"1?0", "1*0 true  false 0 false", "1*0 true  false 0 false"},
		// Not sound behind what pairs find, and sound, though no board agrees.
		{"????/1131/????", " false ????/1131/???? true 0 true", "??.?/1131/??.? true  false 0 false"},
		{"????/1212/????", " false ????/1212/???? true 0 true", " false ????/1212/???? true 0 true"},
		// Nothing is found of cells that no open one is beside.
		{"0?.?", "0..? true 0..? true 1 true", "0..? true 0..? true 1 true"},
	}
	for _, c := range cases {
		checkCases(t, []boardCase{
			{"alone " + c.v, callSteps(c.v, false), c.alone},
			{"with pairs " + c.v, callSteps(c.v, true), c.pairs},
		})
	}
}

// TestNotesWithNoOpenCell: they are sound, and nothing is found.
func TestNotesWithNoOpenCell(t *testing.T) {
	for _, v := range []string{"?", "*", ".", "??", "*.", "?*.", "?/?", "*/?/.", "?.*/*?./.*?", "????????", full("?"), full("*"), full("."), full("?")[:70] + "*"} {
		done := !strings.Contains(v, "?")
		checkCases(t, []boardCase{
			{"IsNotes " + v, told(impl.IsNotes(v)), "true"},
			{"UnknownOf " + v, two(impl.UnknownOf(v)), told(notesModelOf(v).pick(notesModelOf(v).isUnknown), true)},
			{"IsSound " + v, two(impl.IsSound(v)), "true true"},
			{"IsDone " + v, two(impl.IsDone(v)), told(done, true)},
			{"RestAt " + v, two(impl.RestAt(v, 0)), "0 false"},
			{"SingleFinds " + v, three(impl.SingleFinds(v, 0)), "[] [] false"},
			{"PairFinds " + v, three(impl.PairFinds(v, 0, 1)), "[] [] false"},
			{"FirstSingle " + v, two(impl.FirstSingle(v)), "0 false"},
			{"FirstPair " + v, three(impl.FirstPair(v)), "0 0 false"},
			{"without pairs " + v, callSteps(v, false), " false " + v + " true 0 true"},
			{"with pairs " + v, callSteps(v, true), " false " + v + " true 0 true"},
			{"DoesAgree " + v, two(impl.DoesAgree(v, strings.ReplaceAll(v, "?", "*"))), "true true"},
			{"DoesAgree otherwise " + v, two(impl.DoesAgree(v, strings.ReplaceAll(v, "?", "."))), "true true"},
		})
	}
}

// TestNotesWithNoUnknownCell: they are done, and nothing is found.
func TestNotesWithNoUnknownCell(t *testing.T) {
	for _, v := range []string{"0", "0/0", "1*", "*21*", "*.*/1.1", "..*/.2./*..", "***/*8*/***", full("0"), "*1" + strings.Repeat("0", 6) + "/11" + full("0")[11:]} {
		b := strings.Map(func(sign rune) rune {
			if strings.ContainsRune("*/", sign) {
				return sign
			}
			return '.'
		}, v)
		sound := v != "*21*"
		steps := stepsFail
		if sound {
			steps = " false " + v + " true 0 true"
		}
		checkCases(t, []boardCase{
			{"UnknownOf " + v, two(impl.UnknownOf(v)), "[] true"},
			{"UnknownNear " + v, two(impl.UnknownNear(v, 0)), "[] true"},
			{"IsSound " + v, two(impl.IsSound(v)), told(sound, true)},
			{"IsDone " + v, two(impl.IsDone(v)), "true true"},
			{"FirstSingle " + v, two(impl.FirstSingle(v)), "0 false"},
			{"FirstPair " + v, three(impl.FirstPair(v)), "0 0 false"},
			{"without pairs " + v, callSteps(v, false), steps},
			{"with pairs " + v, callSteps(v, true), steps},
			{"NoteMines none " + v, two(impl.NoteMines(v, []int{})), v + " true"},
			{"NoteFree one " + v, two(impl.NoteFree(v, []int{0})), " false"},
			{"DoesAgree " + v, two(impl.DoesAgree(v, b)), told(sound, true)},
		})
	}
}

// TestLargeNotes: all cells of 8 by 8 may be unknown, noted or open.
func TestLargeNotes(t *testing.T) {
	all := full("?")
	corner := "1" + all[1:70] + "0"
	checkCases(t, []boardCase{
		{"UnknownOf", two(impl.UnknownOf(all)), told(upTo(64), true)},
		{"UnknownNear the first", two(impl.UnknownNear(all, 0)), "[1 8 9] true"},
		{"UnknownNear the last", two(impl.UnknownNear(all, 63)), "[54 55 62] true"},
		{"NoteMines all", two(impl.NoteMines(all, upTo(64))), full("*") + " true"},
		{"NoteFree all", two(impl.NoteFree(all, upTo(64))), full(".") + " true"},
		{"NoteMines the last", two(impl.NoteMines(all, []int{63})), all[:70] + "* true"},
		{"NoteFree the first and the last", two(impl.NoteFree(all, []int{0, 63})), "." + all[1:70] + ". true"},
		{"RestAt the last", two(impl.RestAt(corner, 63)), "0 true"},
		{"SingleFinds the last", three(impl.SingleFinds(corner, 63)), "[] [54 55 62] true"},
		{"FirstSingle", two(impl.FirstSingle(corner)), "63 true"},
		{"FindByRules", two(impl.FindByRules(corner, true)), corner[:60] + "../??????.0 true"},
		{"CountSteps", two(impl.CountSteps(corner, true)), "1 true"},
		{"DoesAgree", two(impl.DoesAgree(corner, "."+full("*")[1:60]+"../******..")), "false true"},
		{"DoesAgree with one mine beside", two(impl.DoesAgree(corner, ".*"+full(".")[2:])), "true true"},
		{"UnknownOf 8 by 1", two(impl.UnknownOf("????????")), told(upTo(8), true)},
		{"FindByRules 8 by 1", two(impl.FindByRules("0?1?2?1?", false)), "0.1*2*1. true"},
	})
	zeros := strings.TrimSuffix(strings.Repeat("0?0?0?0?/?0?0?0?0/", 4), "/")
	found := strings.ReplaceAll(zeros, "?", ".")
	checkCases(t, []boardCase{
		{"FindByRules from zero to zero", two(impl.FindByRules(zeros, true)), found + " true"},
		{"FindByRules all open", two(impl.FindByRules(full("0"), true)), full("0") + " true"},
		{"DoesAgree all free", two(impl.DoesAgree(zeros, full("."))), "true true"},
		{"DoesAgree all mines", two(impl.DoesAgree(zeros, full("*"))), "false true"},
	})
}

func TestRowAndColumnNotes(t *testing.T) {
	cases := []struct{ v, found, b string }{
		{"?1?2?*1?", ".1*2**1.", "..*.**.."},
		{"?/1/?/2/?/*/1/?", "./1/*/2/*/*/1/.", "././*/./*/*/./."},
	}
	for _, c := range cases {
		checkCases(t, []boardCase{
			{"UnknownOf " + c.v, two(impl.UnknownOf(c.v)), "[0 2 4 7] true"},
			{"UnknownNear " + c.v, two(impl.UnknownNear(c.v, 3)), "[2 4] true"},
			{"RestAt " + c.v, two(impl.RestAt(c.v, 6)), "0 true"},
			{"SingleFinds " + c.v, three(impl.SingleFinds(c.v, 3)), "[2 4] [] true"},
			{"PairFinds " + c.v, three(impl.PairFinds(c.v, 1, 3)), "[] [] true"},
			{"FirstSingle " + c.v, two(impl.FirstSingle(c.v)), "3 true"},
			{"FindByRules " + c.v, two(impl.FindByRules(c.v, false)), c.found + " true"},
			{"CountSteps " + c.v, two(impl.CountSteps(c.v, true)), "3 true"},
			{"DoesAgree " + c.v, two(impl.DoesAgree(c.v, c.b)), "true true"},
			{"DoesAgree " + c.found, two(impl.DoesAgree(c.found, c.b)), "true true"},
		})
	}
}

// TestListsToNote: the cells of a list are strictly increasing and unknown, or a call fails, wherever the wrong one stands.
func TestListsToNote(t *testing.T) {
	v := "?21?/??.*/1.2?"
	lists := [][]int{
		{1}, {6}, {7}, {8}, {0, 1}, {1, 3}, {0, 7, 11}, {0, 3, 6}, {11, 12}, {12}, {-1}, {-1, 0}, {0, 0}, {3, 0}, {0, 3, 3}, {0, 4, 3}, {11, 5},
		{0, -1}, {3, 1 << 32}, {1 << 32}, {64}, {0, 64}, upTo(12), oddInts(), make([]int, 1<<17),
	}
	for _, cells := range lists {
		checkCases(t, []boardCase{
			{fmt.Sprint("NoteMines ", cells), two(impl.NoteMines(v, cells)), " false"},
			{fmt.Sprint("NoteFree ", cells), two(impl.NoteFree(v, cells)), " false"},
		})
	}
	checkCases(t, []boardCase{
		{"NoteMines none", two(impl.NoteMines(v, nil)), v + " true"},
		{"NoteFree none", two(impl.NoteFree(v, []int{})), v + " true"},
		{"NoteMines all", two(impl.NoteMines(v, []int{0, 3, 4, 5, 11})), "*21*/**.*/1.2* true"},
		{"NoteMines that are not sound", two(impl.NoteMines("0?", []int{1})), "0* true"},
		{"NoteFree that are not sound", two(impl.NoteFree("2?", []int{1})), "2. true"},
		{"NoteMines of one cell", two(impl.NoteMines("?", []int{0})), "* true"},
		{"NoteFree of one cell", two(impl.NoteFree("?", []int{0})), ". true"},
	})
}

// TestBoardsOfAnotherSizeThanNotes: DoesAgree fails, also if there are as many cells.
func TestBoardsOfAnotherSizeThanNotes(t *testing.T) {
	all := []string{"?", "??", "?/?", "???", "?/?/?", "????", "??/??", "?/?/?/?", "???/???", "??/??/??", full("?")}
	for _, v := range all {
		for _, other := range all {
			want := "false false"
			if v == other {
				want = "true true"
			}
			b := strings.ReplaceAll(other, "?", ".")
			checkCases(t, []boardCase{{"DoesAgree " + v + " " + b, two(impl.DoesAgree(v, b)), want}})
		}
	}
}

// TestIsNotesOfShortTexts tries all texts of up to six signs.
func TestIsNotesOfShortTexts(t *testing.T) {
	notes := regexp.MustCompile(`\A(?:[?*.8](?:/[?*.8])*|[?*.8]{2}(?:/[?*.8]{2})*|[?*.8]{3}(?:/[?*.8]{3})*|[?*.8]{4,6})\z`)
	eachText([]string{"?", "*", ".", "8", "/", "9"}, 6, func(s string) {
		if got, want := impl.IsNotes(s), notes.MatchString(s); got != want {
			t.Errorf("IsNotes %q: %v, want %v", s, got, want)
		}
	})
	for sign := range 256 {
		s := string([]byte{byte(sign)})
		if got, want := impl.IsNotes(s), strings.Contains("?*.012345678", s); got != want {
			t.Errorf("IsNotes %q: %v, want %v", s, got, want)
		}
	}
}

// noNotes are texts that are no notes, for one reason each.
func noNotes() []string {
	texts := []string{"9", "?9?", "???/?1?/??", "?-", "1-", "?a", "?1?/???/???/", strings.Repeat("?", 9), strings.Repeat("?", 1<<20), full("?") + "/????????", strings.Repeat("?/", 8) + "?"}
	for _, s := range noBoards() {
		if !strings.ContainsAny(s, "?0123456789") {
			texts = append(texts, s, strings.NewReplacer(".", "?", "*", "1").Replace(s))
		}
	}
	return texts
}

// callWithNotes calls every function of chapter 4, and tells what they return.
func callWithNotes(v string, a int, b int, cells []int, board string) string {
	return told(
		impl.IsNotes(v), two(impl.UnknownOf(v)), two(impl.UnknownNear(v, a)), two(impl.RestAt(v, a)), two(impl.IsSound(v)),
		three(impl.SingleFinds(v, a)), three(impl.PairFinds(v, a, b)), two(impl.NoteMines(v, cells)), two(impl.NoteFree(v, cells)),
		two(impl.FirstSingle(v)), three(impl.FirstPair(v)), callSteps(v, false), callSteps(v, true), two(impl.IsDone(v)), two(impl.DoesAgree(v, board)))
}

const withNotesFail = "false [] false [] false 0 false false false [] [] false [] [] false  false  false 0 false 0 0 false " +
	stepsFail + " " + stepsFail + " false false false false"

func TestNoNotesFail(t *testing.T) {
	for _, s := range noNotes() {
		for _, cells := range [][]int{nil, {0}} {
			checkCases(t, []boardCase{
				{s, callWithNotes(s, 0, 1, cells, "."), withNotesFail},
				{s + " with itself", callWithNotes(s, 1, 0, cells, s), withNotesFail},
			})
		}
	}
}

func TestNoBoardsFailForNotes(t *testing.T) {
	for _, s := range noBoards() {
		checkCases(t, []boardCase{
			{"DoesAgree ? " + s, two(impl.DoesAgree("?", s)), "false false"},
			{"DoesAgree ??? " + s, two(impl.DoesAgree("???/???/???", s)), "false false"},
			{"DoesAgree with itself " + s, two(impl.DoesAgree(s, s)), "false false"},
		})
	}
}

func TestNotesCellsThatThereAreNot(t *testing.T) {
	for _, v := range []string{"?", "0", "?1?", "?21?/??.*/1.2?", "?/1/?", full("?"), full("0")} {
		m := notesModelOf(v)
		open := firstOf(m.pick(m.isOpen))
		for _, cell := range append(oddInts(), 2, 3, 12, 71) {
			if cell >= 0 && cell < m.cells() {
				continue
			}
			call := fmt.Sprintf("%s %d", v, cell)
			checkCases(t, []boardCase{
				{"UnknownNear " + call, two(impl.UnknownNear(v, cell)), "[] false"},
				{"RestAt " + call, two(impl.RestAt(v, cell)), "0 false"},
				{"SingleFinds " + call, three(impl.SingleFinds(v, cell)), "[] [] false"},
				{"PairFinds first " + call, three(impl.PairFinds(v, cell, open)), "[] [] false"},
				{"PairFinds second " + call, three(impl.PairFinds(v, open, cell)), "[] [] false"},
				{"PairFinds both " + call, three(impl.PairFinds(v, cell, cell)), "[] [] false"},
				{"NoteMines " + call, two(impl.NoteMines(v, []int{cell})), " false"},
				{"NoteFree " + call, two(impl.NoteFree(v, []int{cell})), " false"},
			})
		}
	}
}
