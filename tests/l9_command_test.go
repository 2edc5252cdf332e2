package tests

import (
	"fmt"
	"math/rand"
	"slices"
	"strconv"
	"strings"
	"sync"
	"testing"

	"loop.example/peoplesnumerals/impl"
)

// wantOutput checks the lines that a script prints.
func wantOutput(t *testing.T, script string, want ...string) {
	t.Helper()
	if got := impl.Execute(script); got != linesOf(want...) {
		t.Errorf("Execute(%.700q): %.700q; expected %.700q", script, got, linesOf(want...))
	}
}

// wantLines checks the lines that a script of some lines prints.
func wantLines(t *testing.T, lines []string, want ...string) {
	t.Helper()
	wantOutput(t, linesOf(lines...), want...)
}

// wantRefused checks that a line prints an answer and changes neither the number nor the system, for some numbers.
func wantRefused(t *testing.T, line string, answer string) {
	t.Helper()
	wantLines(t, []string{line}, answer, "number 1")
	wantLines(t, []string{"number 14", "system 1 5", line, "show", "pile"}, "ok", "ok", answer, "14", "4 2", "number 14")
}

// Promise 56, the empty script, and where lines end.

func TestExecuteWithoutLines(t *testing.T) {
	if impl.MaxScript != greatestScript {
		t.Errorf("MaxScript is %d", impl.MaxScript)
	}
	wantOutput(t, "", "number 1")
	for _, tail := range []string{"show", "zzz", " ", "number 5", "number 5 ", "roman x", "system 1 2", "add 7", "\r", "\x00", "\xff\xfe", "clay Y Y Y", strings.Repeat("x", 600), strings.Repeat(" ", 599), strings.Repeat("\r", 600)} {
		wantOutput(t, tail, "number 1")
	}
}

func TestExecuteEmptyLines(t *testing.T) {
	for _, count := range []int{1, 2, 3, 10, 100, 599, 600} {
		want := strings.Repeat("what\n", count) + "number 1\n"
		if got := impl.Execute(strings.Repeat("\n", count)); got != want {
			t.Errorf("%d newlines: %.100q", count, got)
		}
	}
	wantOutput(t, "\n\nshow\n\n", "what", "what", "1", "what", "number 1")
	wantOutput(t, "\nnumber 5\n\n", "what", "ok", "what", "number 5")
}

func TestExecuteLastLine(t *testing.T) {
	wantOutput(t, "number 5\nnumber 6", "ok", "number 5")
	wantOutput(t, "number 5\nnumber 6\n", "ok", "ok", "number 6")
	wantOutput(t, "number 5\nshow", "ok", "number 5")
	wantOutput(t, "number 5\n ", "ok", "number 5")
	wantOutput(t, "number 5\n\nshow", "ok", "what", "number 5")
	wantOutput(t, "system 1 5\nnumber 9\npile\nsystem 1 2", "ok", "ok", "4 1", "number 9")
	wantOutput(t, "show\n\r", "1", "number 1")
	// Only a newline ends a line.
	for _, end := range []string{"\r", "\r\n", "\v", "\f", "\x00", "\u0085", "\u2028", ";", "\\n", "\x1e"} {
		if got, want := impl.Execute("show"+end+"\n"), plainExecute("show"+end+"\n"); got != want || !strings.HasPrefix(got, "what\n") {
			t.Errorf("show and %q: %q", end, got)
		}
		if end != "\r\n" {
			wantOutput(t, "number 7"+end+"show\n", "no", "number 1")
		}
	}
	wantOutput(t, "number 7\r\nshow\r\n", "no", "what", "number 1")
}

func TestPromise56(t *testing.T) {
	wantOutput(t, "", "number 1")
	tails := []string{"", "x", "show", "zzz", "number 5", "add 5", "system 1 2", "roman XIV", "\r", "\x00", "\xff", " ", "too long"}
	chance := rand.New(rand.NewSource(56))
	broken, others := brokenRests(), otherLines()
	for range 300 {
		script := chanceScript(chance, broken, others, 20)
		output := impl.Execute(script)
		if output == "" {
			t.Errorf("Execute(%q) prints nothing", script)
		}
		for _, tail := range tails {
			if got := impl.Execute(script + tail); got != output {
				t.Errorf("Execute(%q): %q, without what is behind the last newline %q", script+tail, got, output)
			}
		}
		if full := script + strings.Repeat("z", greatestScript-len(script)); impl.Execute(full) != output {
			t.Errorf("Execute(%q): %q, without what is behind the last newline %q", full, impl.Execute(full), output)
		}
		if impl.Execute(script+strings.Repeat("z", greatestScript+1-len(script))) != "too long\n" {
			t.Errorf("a script with more than %d bytes is run: %q", greatestScript, script)
		}
	}
	for _, length := range []int{600, 601, 1 << 16} {
		for _, sign := range []string{"x", "\n", " ", "\x00", "\xff"} {
			if impl.Execute(strings.Repeat(sign, length)) == "" {
				t.Errorf("%d times %q prints nothing", length, sign)
			}
		}
	}
}

func TestExecuteLength(t *testing.T) {
	for length := 590; length <= 600; length++ {
		wantOutput(t, "number 5\n"+strings.Repeat("x", length-9), "ok", "number 5")
		wantOutput(t, "number 5\n"+strings.Repeat("x", length-10)+"\n", "ok", "what", "number 5")
	}
	for _, length := range []int{601, 602, 603, 610, 700, 855, 856, 857, 1200, 1 << 10, 1<<16 + 1, 1<<16 + 300, 1 << 22} {
		wantOutput(t, "number 5\n"+strings.Repeat("x", length-9), "too long")
		wantOutput(t, strings.Repeat("\n", length), "too long")
		wantOutput(t, strings.Repeat(" ", length), "too long")
		wantOutput(t, strings.Repeat("\x00", length), "too long")
		wantOutput(t, strings.Repeat("show\n", length/5+1), "too long")
	}
	wantOutput(t, strings.Repeat("show\n", 120), append(slices.Repeat([]string{"1"}, 120), "number 1")...)
	wantOutput(t, strings.Repeat("show\n", 120)+"\n", "too long")
	wantOutput(t, strings.Repeat("show\n", 120)+"x", "too long")
	// Bytes are counted, not signs.
	wantOutput(t, strings.Repeat("é", 300), "number 1")
	wantOutput(t, strings.Repeat("é", 301), "too long")
	wantOutput(t, strings.Repeat("€", 200), "number 1")
	wantOutput(t, strings.Repeat("€", 201), "too long")
	wantOutput(t, strings.Repeat("\xff", 600), "number 1")
	wantOutput(t, strings.Repeat("\xff", 601), "too long")
}

// What each word prints.

func TestExecute(t *testing.T) {
	wantLines(t, []string{"show", "as r", "as a", "as c", "as k", "as d", "short", "least", "piled", "pile", "taken", "saved", "word", "days", "noughts", "sign", "strokes", "turned", "mirror"},
		"1", "I", "a", "Y", "1", "1", "rackd", "I", "I", "1 0 0 0", "1 0 0 0", "0", "a", "0 0 0 0 1", "0", "1", "1", "1000", "10", "number 1")
	wantLines(t, []string{"number 1994", "show", "as r", "as a", "as c", "as k", "as d", "short", "piled", "pile", "taken", "saved", "days", "noughts", "sign", "strokes", "turned", "mirror"},
		"ok", "1994", "MCMXCIV", "'a*rd", "<<<YYY <YYYY", "1q9b9s4", "1994", "d", "MDCCCCLXXXXIIII", "4 9 9 1", "4 -1 0 2", "16", "0 0 5 9 14", "0", "52840", "8", "4991", "9149", "number 1994")
	wantLines(t, []string{"number 14", "as r", "as a", "as c", "as k", "as d", "short", "least", "piled", "pile", "taken", "saved", "word", "days", "noughts", "sign", "strokes", "turned", "mirror"},
		"ok", "XIV", "jd", "<YYYY", "1s4", "14", "ad", "IXV", "XIIII", "4 1 0 0", "4 1 0 0", "0", "dj", "0 0 0 0 14", "0", "40", "2", "4100", "41", "number 14")
	wantLines(t, []string{"number 0", "show", "as r", "as a", "as c", "as k", "as d", "short", "least", "piled", "pile", "taken", "saved", "word", "days", "noughts", "sign", "strokes", "turned", "mirror"},
		"ok", "0", "no", "no", ".", "o", "0", "ckd", "no", "no", "0 0 0 0", "0 0 0 0", "0", "no", "0 0 0 0 0", "1", "0", "0", "0", "0", "number 0")
	wantLines(t, []string{"number 999999", "taken", "saved", "number 1", "loose IIX", "loose IXV", "sum cab", "sum *", "readings YY", "readings <YY", "readings Y<Y<Y<", "kinds 1", "kinds o", "kinds x1", "kinds "},
		"ok", "-1 0 0 1000", "25", "ok", "10", "14", "6", "900", "2 61", "12 602 661 36061", "-", "kd", "ak", "-", "-", "number 1")
	wantLines(t, []string{"roman XIV", "show", "alpha 'atld", "show", "clay Y Y Y", "show", "rank 1q2bo3", "show", "add 7", "show", "number 5", "show"},
		"ok", "14", "ok", "1234", "ok", "3661", "ok", "1203", "ok", "1210", "ok", "5", "number 5")
}

// The greatest number that the function of a word has, and one more.
func TestWordsAtLimits(t *testing.T) {
	for _, limit := range []struct {
		line     string
		greatest int
		want     string
	}{
		{"as r", 3999, "MMMCMXCIX"}, {"as a", 9999, "'i*ri"}, {"as c", 12959999, "<<<<<YYYYYYYYY <<<<<YYYYYYYYY <<<<<YYYYYYYYY <<<<<YYYYYYYYY"}, {"as k", 99999999, "9q9b9s9w9q9b9s9"}, {"as d", 99999999, "99999999"},
		{"show", 99999999, "99999999"}, {"short", 99999999, "d"}, {"noughts", 99999999, "0"}, {"least", 3999, "IMMMM"}, {"piled", 3999, "MMMDCCCCLXXXXVIIII"},
		{"pile", 1000000, "0 0 0 1000"}, {"taken", 1000000, "0 0 0 1000"}, {"saved", 1000000, "0"}, {"word", 2000, "**t"}, {"days", 2879999, "19 19 19 17 19"},
		{"sign", 9999, "642675"}, {"strokes", 9999, "12"}, {"turned", 9999, "9999"}, {"mirror", 9999, "9999"},
	} {
		number := fmt.Sprint("number ", limit.greatest)
		wantLines(t, []string{number, limit.line}, "ok", limit.want, number)
		if limit.greatest == greatestDecimal {
			continue
		}
		beyond := fmt.Sprint(limit.greatest + 1)
		wantLines(t, []string{"number " + beyond, limit.line, "show"}, "ok", "no", beyond, "number "+beyond)
		wantLines(t, []string{"number 99999999", limit.line, "show"}, "ok", "no", "99999999", "number 99999999")
	}
	for _, line := range []string{"as r", "as a", "least", "piled", "word"} {
		wantLines(t, []string{"number 0", line, "show"}, "ok", "no", "0", "number 0")
	}
}

// Each word against the plain telling, for many numbers and systems.
func TestWordsPlain(t *testing.T) {
	lines := strings.Fields(wordsPlain)
	for _, kind := range []string{"as r", "as a", "as c", "as k", "as d", "as x", "as "} {
		lines = append(lines, kind)
	}
	for _, n := range []int{0, 1, 2, 5, 9, 10, 19, 59, 60, 99, 100, 999, 1000, 1888, 1999, 2000, 2001, 3888, 3999, 4000, 9999, 10000, 10203, 215999, 999999, 1000000, 1000001, 2879999, 2880000, 12959999, 12960000, 99999999} {
		for _, system := range []string{"1 10 100 1000", "1", "1 5 10 50 100 500", "1 2", "1 1000000"} {
			for _, line := range lines {
				script := linesOf(fmt.Sprint("number ", n), "system "+system, line)
				if got, want := impl.Execute(script), plainExecute(script); got != want {
					t.Errorf("Execute(%q): %q; expected %q", script, got, want)
				}
			}
		}
	}
}

// Rests with which a word does not fail, and those with which it does.
func TestWordsWithRest(t *testing.T) {
	broken := brokenRests()
	for _, word := range strings.Fields(wordsTold) {
		for _, rest := range ownRests()[word] {
			for _, ahead := range []string{"number 1", "number 7", "number 3999"} {
				script := linesOf(ahead, word+" "+rest, "show", "pile")
				got, want := impl.Execute(script), plainExecute(script)
				if got != want || strings.HasPrefix(got, "ok\nno\n") {
					t.Errorf("Execute(%q): %q; expected %q", script, got, want)
				}
			}
		}
		if word != "kinds" && len(broken[word]) < 20 {
			t.Errorf("%q has %d rests with which it fails", word, len(broken[word]))
		}
		for _, rest := range broken[word] {
			wantRefused(t, word+" "+rest, "no")
		}
	}
}

func TestEmptyRests(t *testing.T) {
	for _, word := range strings.Fields(wordsTold) {
		if word == "kinds" {
			wantLines(t, []string{"kinds "}, "-", "number 1")
		} else {
			wantRefused(t, word+" ", "no")
		}
		wantRefused(t, word, "what")
	}
	// What is behind the first space is the rest, other spaces among it.
	wantLines(t, []string{"kinds  ", "kinds 1 ", "kinds  1", "kinds Y Y", "kinds Y  Y", "sum  a", "loose  I", "readings  Y", "as  r", "as r "},
		"-", "-", "-", "c", "-", "no", "no", "no", "no", "no", "number 1")
}

// Lines that are no command.
func TestOtherLines(t *testing.T) {
	for _, line := range otherLines() {
		wantRefused(t, line, "what")
	}
	for _, line := range []string{"show ", "show x", "show 1", "short ", "least ", "piled ", "pile 1", "taken 1", "saved ", "word 14", "days ", "noughts ", "sign ", "strokes ", "turned ", "mirror ", "number", "roman", "alpha", "clay", "rank", "add", "system", "as", "loose", "sum", "readings", "kinds",
		" show", " number 7", "Show", "SHOW", "sho", "shows", "Number 7", "numbe 7", "numbers 7", "shows ", "pil", "piles", "words", "wor", "a r", "ass r", "As r", "kind 1", "Kinds 1", "reading Y", "syste 1", "systems 1", "ad 7", "adds 7", "decimal 7", "k 1"} {
		wantRefused(t, line, "what")
	}
}

// Numbers as rests.

func TestRestOfNumber(t *testing.T) {
	for rest, want := range map[string]int{
		"0": 0, "1": 1, "7": 7, "10": 10, "00": 0, "01": 1, "007": 7, "0000007": 7, "00000000": 0, "00000001": 1, "00000010": 10, "09999999": 9999999, "10000000": 10000000, "12345678": 12345678, "99999998": 99999998, "99999999": 99999999,
	} {
		wantLines(t, []string{"number " + rest, "show"}, "ok", strconv.Itoa(want), fmt.Sprint("number ", want))
		wantLines(t, []string{"number 0", "add " + rest, "show"}, "ok", "ok", strconv.Itoa(want), fmt.Sprint("number ", want))
	}
	for _, rest := range append(brokenNumbers(), "1 2", "1 1", "7 14", "0 0", "1 2 3") {
		wantRefused(t, "number "+rest, "no")
		wantRefused(t, "add "+rest, "no")
	}
	for sign := range 256 {
		if text := string([]byte{byte(sign)}); text != "\n" && (text < "0" || text > "9") {
			for _, rest := range []string{text, "1" + text, text + "1"} {
				wantRefused(t, "number "+rest, "no")
				wantRefused(t, "add "+rest, "no")
				wantRefused(t, "system "+rest, "no")
			}
			if text != " " {
				wantRefused(t, "system 1"+text+"10", "no")
				wantRefused(t, "number 1"+text+"1", "no")
			}
		}
	}
}

func TestAddAtLimit(t *testing.T) {
	for _, sum := range []struct {
		number, added int
		fails         bool
	}{
		{0, 0, false}, {1, 0, false}, {0, 99999999, false}, {1, 99999998, false}, {1, 99999999, true}, {2, 99999998, true}, {99999999, 0, false}, {99999999, 1, true}, {99999998, 1, false}, {99999998, 2, true}, {99999999, 99999999, true}, {50000000, 50000000, true}, {50000000, 49999999, false}, {49999999, 50000000, false}, {3999, 1, false}, {9999, 1, false}, {12959999, 1, false},
	} {
		script := []string{fmt.Sprint("number ", sum.number), fmt.Sprint("add ", sum.added), "show"}
		want := sum.number + sum.added
		if sum.fails {
			wantLines(t, script, "ok", "no", strconv.Itoa(sum.number), fmt.Sprint("number ", sum.number))
		} else {
			wantLines(t, script, "ok", "ok", strconv.Itoa(want), fmt.Sprint("number ", want))
		}
	}
	wantLines(t, []string{"add 99999998", "add 1", "add 0", "show", "add 99999999"}, "ok", "no", "ok", "99999999", "no", "number 99999999")
	wantLines(t, []string{"number 100000000", "number 099999999", "number 99999999", "number 123456789"}, "no", "no", "ok", "no", "number 99999999")
}

func TestSystemWord(t *testing.T) {
	for system, want := range map[string]string{
		"1": "1994", "01": "1994", "1 2": "0 997", "1 5 10 50 100 500": "4 0 4 1 4 3", "1 2 4 8 16 32": "0 1 0 1 0 62", "1 10 100 1000 10000 100000": "4 9 9 1 0 0", "1 1000000": "1994 0", "0001 00000060 3600": "14 33 0", "00000001 00000010": "4 199",
	} {
		wantLines(t, []string{"number 1994", "system " + system, "pile"}, "ok", "ok", want, "number 1994")
	}
	for _, system := range []string{"0", "2", "10", "1 1", "1 0", "0 1", "2 4", "1 2 3", "1 10 5", "1 3 4", "10 1", "1 10 100 1000 10000 100000 1000000", "1 2 4 8 16 32 64", "1 2 4 8 16 32 64 128", "1 1000001", "1 2000000", "1 99999999", "1 10 100 100", "99999999", "1 -2", "1  2", " 1 2", "1 2 ", "1 2 x", "1 000000002", "x", "",
		"1 1 1 1 1 1 1", "1" + strings.Repeat(" 10", 100)} {
		wantRefused(t, "system "+system, "no")
	}
	// The last system that is one counts, for all words with piles.
	wantLines(t, []string{"number 19", "pile", "taken", "saved", "system 1 20", "pile", "taken", "saved", "system 1 3", "system 2", "pile", "taken", "saved", "system 1 10 100 1000", "taken"},
		"ok", "9 1 0 0", "-1 2 0 0", "7", "ok", "19 0", "-1 1", "17", "ok", "no", "1 6", "1 6", "0", "ok", "-1 2 0 0", "number 19")
}

// Numerals as rests.

func TestNumeralWords(t *testing.T) {
	words := map[string]string{"roman": "r", "alpha": "a", "clay": "c", "rank": "k"}
	for word, kind := range words {
		for n, numeral := range knownNumerals()[kind] {
			wantLines(t, []string{"number 77", word + " " + numeral, "show"}, "ok", "ok", strconv.Itoa(n), fmt.Sprint("number ", n))
			for other, otherKind := range words {
				answer, number := "no", 77
				if m, ok := impl.ChangeRead(otherKind, numeral); ok {
					answer, number = "ok", m
				}
				wantLines(t, []string{"number 77", other + " " + numeral}, "ok", answer, fmt.Sprint("number ", number))
			}
		}
		for _, line := range []string{word + " ", word + "  ", word + " ?", word + " -", word + " 10", word + " 0", word + " \x00", word + " \xff"} {
			wantRefused(t, line, "no")
		}
	}
	// An o is 60 as letters and 0 as a ranked text.
	wantLines(t, []string{"alpha o", "rank o", "roman o", "clay o"}, "ok", "ok", "no", "no", "number 0")
	wantLines(t, []string{"roman IIII", "roman IIX", "alpha ba", "alpha cab", "clay Y<", "clay YYYYYYYYYY", "rank 0", "rank s4", "roman i", "alpha A", "clay y", "rank 1S"}, "no", "no", "no", "no", "no", "no", "no", "no", "no", "no", "no", "no", "number 1")
}

func TestAsWord(t *testing.T) {
	for kind, numerals := range knownNumerals() {
		for n, want := range numerals {
			wantLines(t, []string{fmt.Sprint("number ", n), "as " + kind}, "ok", want, fmt.Sprint("number ", n))
		}
		between := kindRanges()[kind]
		if between[0] > 0 {
			wantLines(t, []string{"number 0", "as " + kind}, "ok", "no", "number 0")
		}
		if beyond := fmt.Sprint("number ", between[1]+1); between[1] < greatestDecimal {
			wantLines(t, []string{beyond, "as " + kind}, "ok", "no", beyond)
		}
	}
	for _, kind := range []string{"", " ", "x", "R", "A", "C", "K", "D", "e", "ra", "rr", "r ", " r", "roman", "\x00", "\xff", "r\r", "1"} {
		wantRefused(t, "as "+kind, "no")
	}
}

// Lists that are empty, with one number and with several, and texts that are empty.
func TestListsOfWords(t *testing.T) {
	wantLines(t, []string{"readings Y<Y<Y<", "readings <", "readings Y", "readings YY", "readings <Y", "readings YYY", "system 1", "number 1994", "pile", "taken", "system 1 2", "pile", "taken", "kinds ", "kinds ?", "kinds a"},
		"-", "10", "1", "2 61", "11 601", "3 62 121 3661", "ok", "ok", "1994", "1994", "ok", "0 997", "0 997", "-", "-", "a", "number 1994")
	for text, readings := range readingsByText() {
		want := strings.Trim(fmt.Sprint(readings), "[]")
		wantLines(t, []string{"readings " + text}, want, "number 1")
	}
}

// Promise 57.

// withoutLast has all lines of an output but the last one, and the last one.
func withoutLast(t *testing.T, output string) (string, string) {
	t.Helper()
	if !strings.HasSuffix(output, "\n") {
		t.Fatalf("the output %q does not end with a newline", output)
	}
	end := strings.LastIndex(output[:len(output)-1], "\n") + 1
	return output[:end], output[end:]
}

// fullScripts has some scripts of complete lines that have room for just so many bytes.
func fullScripts(room int) []string {
	length := greatestScript - room
	return []string{
		strings.Repeat("\n", length), strings.Repeat("x", length-1) + "\n", "number 5\n" + strings.Repeat(" ", length-10) + "\n", "number 14\nsystem 1 5\n" + strings.Repeat("\n", length-21), "alpha jd\n" + strings.Repeat("show\n", (length-9)/5) + strings.Repeat("\n", (length-9)%5),
	}
}

func TestPromise57(t *testing.T) {
	chance := rand.New(rand.NewSource(57))
	broken, others := brokenRests(), otherLines()
	scripts := append(fullScripts(12), "", "\n", "number 5\n", "number 0\n", "number 99999999\n", "roman XIV\n", "roman x\n", "zzz\n")
	for range 400 {
		scripts = append(scripts, chanceScript(chance, broken, others, 12))
	}
	for _, script := range scripts {
		ahead, last := withoutLast(t, impl.Execute(script))
		if !strings.HasPrefix(last, "number ") {
			t.Errorf("Execute(%q) ends with %q", script, last)
		}
		if got, want := impl.Execute(script+"zzz\nroman x\n"), ahead+"what\nno\n"+last; got != want {
			t.Errorf("Execute(%q): %q; expected %q", script+"zzz\nroman x\n", got, want)
		}
	}
}

// Promise 58.

func TestPromise58(t *testing.T) {
	chance := rand.New(rand.NewSource(58))
	broken, others := brokenRests(), otherLines()
	scripts := append(fullScripts(10), "", "\n", "number 5\n", "number 0\n", "number 99999999\n", "rank 1w\n", "add 7\n", "number 99999999\nadd 1\n")
	for range 400 {
		scripts = append(scripts, chanceScript(chance, broken, others, 10))
	}
	for _, script := range scripts {
		ahead, last := withoutLast(t, impl.Execute(script))
		number := strings.TrimPrefix(last, "number ")
		if got, want := impl.Execute(script+"show\nshow\n"), ahead+number+number+last; got != want {
			t.Errorf("Execute(%q): %q; expected %q", script+"show\nshow\n", got, want)
		}
	}
}

// Promise 59.

func TestPromise59(t *testing.T) {
	made := 0
	for n := 0; n <= 4100; n++ {
		number := fmt.Sprint("number ", n)
		text, ok := impl.RomanOf(n)
		if !ok {
			wantLines(t, []string{number, "as r"}, "ok", "no", number)
			continue
		}
		made++
		wantLines(t, []string{number, "as r"}, "ok", text, number)
	}
	if made != greatestStrict {
		t.Errorf("%d numbers have strict texts", made)
	}
}

// Promise 60.

func TestPromise60(t *testing.T) {
	for _, n := range clayNumbers() {
		text := plainClay(n)
		wantLines(t, []string{"clay " + text}, "ok", fmt.Sprint("number ", n))
		wantLines(t, []string{"number 77", "clay " + text, "show"}, "ok", "ok", strconv.Itoa(n), fmt.Sprint("number ", n))
	}
	for _, text := range shortLines("clay", noClays()) {
		wantRefused(t, "clay "+text, "no")
	}
}

// Scripts of several commands, by chance, against the plain telling.
func TestExecuteByChance(t *testing.T) {
	chance := rand.New(rand.NewSource(9))
	broken, others := brokenRests(), otherLines()
	printed := map[string]int{}
	for range 3000 {
		script := chanceScript(chance, broken, others, chance.Intn(300))
		if chance.Intn(3) == 0 {
			script += "show"
		}
		got, want := impl.Execute(script), plainExecute(script)
		if got != want {
			t.Errorf("Execute(%q): %q; expected %q", script, got, want)
		}
		for _, line := range strings.Split(got, "\n") {
			printed[line]++
		}
	}
	for _, line := range []string{"ok", "no", "what", "-", "0", "1 0 0 0"} {
		if printed[line] < 20 {
			t.Errorf("%q is printed %d times", line, printed[line])
		}
	}
}

// Bytes that are no text, and all kinds of bytes by chance.
func TestExecuteBytes(t *testing.T) {
	chance := rand.New(rand.NewSource(90))
	const signs = "\n\n\n   nshowaumber0123456789rackdIVX<Y.\x00\xff\r\tq"
	for range 3000 {
		script := make([]byte, chance.Intn(610))
		for i := range script {
			if script[i] = byte(chance.Intn(256)); chance.Intn(2) == 0 {
				script[i] = signs[chance.Intn(len(signs))]
			}
		}
		if got, want := impl.Execute(string(script)), plainExecute(string(script)); got != want {
			t.Errorf("Execute(%q): %q; expected %q", script, got, want)
		}
	}
	for sign := range 256 {
		if text := string([]byte{byte(sign)}); text != "\n" {
			wantRefused(t, text, "what")
			wantRefused(t, text+text, "what")
			wantRefused(t, text+" "+text, "what")
			wantRefused(t, "show"+text, "what")
			wantRefused(t, text+"show", "what")
		}
	}
}

// The general rules: no state between calls, also if they are made at the same time.

func TestExecuteAgain(t *testing.T) {
	for range 100 {
		wantOutput(t, "number 5\nsystem 1 2\npile\nzzz\nroman x\n", "ok", "ok", "1 2", "what", "no", "number 5")
		wantOutput(t, "show\npile\n", "1", "1 0 0 0", "number 1")
		wantOutput(t, strings.Repeat("\n", 601), "too long")
		wantOutput(t, "", "number 1")
	}
}

func TestExecuteNoState(t *testing.T) {
	chance := rand.New(rand.NewSource(99))
	broken, others := brokenRests(), otherLines()
	scripts := []string{"", "\n", "system 1\npile\n", "number 5\n", strings.Repeat("\n", 601)}
	for range 200 {
		scripts = append(scripts, chanceScript(chance, broken, others, 0))
	}
	first := make([]string, len(scripts))
	for i, script := range scripts {
		first[i] = impl.Execute(script)
	}
	var calls sync.WaitGroup
	for worker := range 4 {
		calls.Go(func() {
			for k := range scripts {
				i := (k*7 + worker*31) % len(scripts)
				if again := impl.Execute(scripts[i]); again != first[i] {
					t.Errorf("Execute(%q): %q, and again %q", scripts[i], first[i], again)
				}
			}
		})
	}
	calls.Wait()
}
