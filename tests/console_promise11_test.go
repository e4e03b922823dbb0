package tests

import (
	"strings"
	"testing"

	"loop.example/g01294/impl"
)

// callChapter10 calls every function of chapter 10, and tells what they return.
func callChapter10(d impl.Desk, line string, script string) string {
	return told(impl.FirstDesk(), impl.IsDesk(d), three(impl.DeskLine(d, line)), callScript(script))
}

// oddTexts are texts of all kinds, of which few are lines or scripts that do something.
func oddTexts() []string {
	texts := []string{
		"", "\n", " ", " \n", "show", "show\n", "open 4", "open 4\n", "open 00\n", "open -1\n", "open 999999\n", "open 1000000\n", "fresh 8 8\n", "fresh 999999 999999\n", "fresh 2 7\nany\n", "board \n", "board *..\nplay\n",
		"open \xff\n", "\x00\n", "\xff\xfe\n", "best\nbest", "turn\nmirror\nturn\n", consoleExample, "board " + full("*") + "\n", "board ****\nchance\nbest\nplay\nsure\n", "hide 0\nhide 8\nput 8\ntake 8\nzeros\n",
		strings.Repeat("\n", 50), strings.Repeat("\n", 51), strings.Repeat("x", 2999) + "\n", strings.Repeat("x", 3000) + "\n", strings.Repeat(" ", 3000), strings.Repeat("x", 3001), strings.Repeat("any\n", 600), strings.Repeat("open 1\n", 1<<17),
	}
	for _, word := range wordsThatAreNoNumbers() {
		texts = append(texts, "open "+word, "fresh 1 "+word+"\nfits\n")
	}
	return texts
}

// TestPromise11AllArgumentsToTheConsole: no function panics, and each returns the same again.
func TestPromise11AllArgumentsToTheConsole(t *testing.T) {
	desks := append(someDesks(), noDesks()...)
	texts := append(oddTexts(), askWords()...)
	for i, d := range desks {
		for k := range 12 {
			line, script := texts[(i*5+k*7)%len(texts)], texts[(i*11+k*3)%len(texts)]
			first := callChapter10(d, line, script)
			if k%4 == 0 && callChapter10(d, line, script) != first {
				t.Fatalf("chapter 10 returns others for %.100q %.100q %.100q %.100q", d.Board, d.View, line, script)
			}
		}
	}
	for _, text := range texts {
		for _, d := range someDesks() {
			if first := three(impl.DeskLine(d, text)); three(impl.DeskLine(d, text)) != first {
				t.Fatalf("DeskLine %v %.100q returns another than %s", d, text, first)
			}
		}
		for _, d := range []impl.Desk{deskOf(text, text), deskOf(text, "?"), deskOf(".", text)} {
			checkCases(t, []boardCase{{"IsDesk " + text, told(impl.IsDesk(d)), "false"}})
		}
		callScript(text)
	}
	for _, hard := range []string{"fresh 7 2\n" + strings.Repeat("any\n", 49), "fresh 7 2\nput 0\n" + strings.Repeat("safest\n", 48), "fresh 4 2\nput 0\nput 3\nput 5\n" + strings.Repeat("play\n", 46)} {
		if first := callScript(hard); callScript(hard) != first {
			t.Errorf("%.30q returns another than %s", hard, first)
		}
	}
}

// TestPromise11AllBytesInLines: no line panics, whichever byte it has in whichever place, and none but those of the table does something.
func TestPromise11AllBytesInLines(t *testing.T) {
	d := deskOf("*../.../..*", "?1?/???/???")
	for _, good := range []string{"board *", "fresh 1 2", "open 4", "hide 1", "put 3", "take 0", "turn", "play"} {
		for at := range len(good) {
			for sign := range 256 {
				line := good[:at] + string([]byte{byte(sign)}) + good[at+1:]
				want := lineFail
				if sign != '\n' {
					behind, reply := deskModelOf(d.Board, d.View).line(line)
					want = told(behind.desk(), reply, true)
				}
				checkCases(t, []boardCase{{line, three(impl.DeskLine(d, line)), want}})
			}
		}
	}
}

// TestPromise11DesksAndLines: neither a desk nor a text is changed, and no call leaves anything behind for the next one.
func TestPromise11DesksAndLines(t *testing.T) {
	d, script := deskOf("*../.../..*", "??0/?2?/???"), consoleExample
	first := callChapter10(d, "open 1", script)
	for _, line := range []string{"open 1", "hide 2", "put 1", "take 0", "turn", "mirror", "board *..", "fresh 2 2", "open 0", "fly"} {
		impl.DeskLine(d, line)
		impl.RunScript("fresh 2 2\n" + line + "\n")
		if again := callChapter10(d, "open 1", script); again != first || d != deskOf("*../.../..*", "??0/?2?/???") || script != consoleExample {
			t.Errorf("behind %s: %v, and chapter 10 returns %s, not %s", line, d, again, first)
		}
	}
}

// TestPromise11FreshReplies: a result that is changed changes no other one, now or in a later call.
func TestPromise11FreshReplies(t *testing.T) {
	checkFresh(t, map[string]func() []int{
		"FailedLines": func() []int { lines, _ := impl.FailedLines(consoleExample); return lines },
	})
	checkFreshTexts(t, "RunScript", func() []string { replies, _ := impl.RunScript(consoleExample); return replies })
}

// TestConsolesAtOnce: calls that go on beside each other return what each of them does alone.
func TestConsolesAtOnce(t *testing.T) {
	desks := append(someDesks(), noDesks()[:5]...)
	texts := []string{"any", "open 1", "sure", "play", "fly", "show\n", "put 0"}
	scripts := []string{consoleExample, "fresh 7 2\nany\nsure\n", "fresh 4 2\nput 0\nplay\n", "board *..\nfly\nopen 0\n"}
	checkAtOnce(t, len(desks), func(i int) string { return callChapter10(desks[i], texts[i%len(texts)], scripts[i%len(scripts)]) })
}
