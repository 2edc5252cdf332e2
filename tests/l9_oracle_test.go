package tests

import (
	"fmt"
	"math/rand"
	"regexp"
	"strconv"
	"strings"

	"loop.example/peoplesnumerals/impl"
)

// What the document says of scripts, told a second time in the plainest way. The functions of the chapters ahead, by which
// the document tells what most words do, are the program's own ones: their tests stand beside this file.

const greatestScript = 600

// wordsPlain and wordsTold have the words without a rest and those with one.
const (
	wordsPlain = "show short least piled pile taken saved word days noughts sign strokes turned mirror"
	wordsTold  = "number roman alpha clay rank add system as loose sum readings kinds"
)

// plainDesk has what a script changes.
type plainDesk struct {
	number int
	system []int
}

// plainExecute is the output of a script.
func plainExecute(script string) string {
	if len(script) > greatestScript {
		return "too long\n"
	}
	desk := plainDesk{1, []int{1, 10, 100, 1000}}
	output := ""
	for strings.Contains(script, "\n") {
		end := strings.Index(script, "\n")
		output += desk.line(script[:end]) + "\n"
		script = script[end+1:]
	}
	return output + fmt.Sprintf("number %d\n", desk.number)
}

func (d *plainDesk) line(line string) string {
	end := strings.Index(line, " ")
	if end < 0 {
		return d.plain(line)
	}
	word, rest := line[:end], line[end+1:]
	switch word {
	case "number", "roman", "alpha", "clay", "rank", "add", "system":
		return d.change(word, rest)
	}
	return d.told(word, rest)
}

// shown is the output for what a function returns.
func shown(result any, ok bool) string {
	if !ok {
		return "no"
	}
	text := fmt.Sprint(result)
	if list, isList := result.([]int); isList {
		text = strings.Trim(fmt.Sprint(list), "[]")
	}
	if text == "" {
		return "-"
	}
	return text
}

// plain is the output of a line without a rest.
func (d *plainDesk) plain(word string) string {
	switch word {
	case "show":
		return shown(d.number, true)
	case "short":
		return shown(impl.ChangeShort(d.number))
	case "least":
		return shown(impl.RomanShort(d.number))
	case "piled":
		return shown(impl.RomanPiled(d.number))
	case "pile":
		return shown(impl.PileOf(d.system, d.number))
	case "taken":
		return shown(impl.TakenOf(d.system, d.number))
	case "saved":
		return shown(impl.TakenSaved(d.system, d.number))
	case "word":
		return shown(impl.AlphaLeast(d.number))
	case "days":
		return shown(impl.PlaceDays(d.number))
	case "noughts":
		return shown(impl.RankNoughts(d.number))
	case "sign":
		return shown(impl.StrokeOf(d.number))
	case "strokes":
		return shown(impl.StrokeCount(d.number))
	case "turned":
		return shown(impl.StrokeTurned(d.number))
	case "mirror":
		return shown(impl.StrokeMirror(d.number))
	}
	return "what"
}

// told is the output of a line with a rest that changes nothing.
func (d *plainDesk) told(word, rest string) string {
	switch word {
	case "as":
		return shown(impl.ChangeOf(rest, d.number))
	case "loose":
		return shown(impl.RomanLoose(rest))
	case "sum":
		return shown(impl.AlphaSum(rest))
	case "readings":
		return shown(impl.PlaceReadings(rest))
	case "kinds":
		return shown(impl.ChangeKinds(rest))
	}
	return "what"
}

var restOfNumbers = regexp.MustCompile(`\A[0-9]{1,8}( [0-9]{1,8})*\z`)

// plainNumbers has the numbers of a rest; none if it is another text.
func plainNumbers(rest string) []int {
	var numbers []int
	if restOfNumbers.MatchString(rest) {
		for _, digits := range strings.Fields(rest) {
			n, _ := strconv.Atoi(digits)
			numbers = append(numbers, n)
		}
	}
	return numbers
}

// change is the output of a line with a rest that changes something if it does not fail.
func (d *plainDesk) change(word, rest string) string {
	numbers := plainNumbers(rest)
	n, ok := 0, false
	switch word {
	case "system":
		if !impl.PileIn(numbers) {
			return "no"
		}
		d.system = numbers
		return "ok"
	case "number":
		if ok = len(numbers) == 1; ok {
			n = numbers[0]
		}
	case "add":
		if ok = len(numbers) == 1; ok {
			n = d.number + numbers[0]
		}
	case "rank":
		n, ok = impl.ChangeRead("k", rest)
	default:
		n, ok = impl.ChangeRead(word[:1], rest)
	}
	if !ok || n > 99999999 {
		return "no"
	}
	d.number = n
	return "ok"
}

// linesOf has lines with a newline behind each one.
func linesOf(lines ...string) string {
	script := ""
	for _, line := range lines {
		script += line + "\n"
	}
	return script
}

// ownRests has, for each word with a rest, some with which it does not fail, whatever the number is from 1 to 3999.
func ownRests() map[string][]string {
	return map[string][]string{
		"number":   {"0", "1", "7", "14", "007", "00000000", "1999", "2000", "2001", "3999", "4000", "9999", "10000", "1000000", "1000001", "2879999", "2880000", "12959999", "12960000", "99999999"},
		"roman":    {"I", "XIV", "MCMXCIX", "MMMDCCCLXXXVIII", "MMMCMXCIX"},
		"alpha":    {"a", "jd", "'atld", "o", "*", "'i*ri"},
		"clay":     {".", "Y", "<YYYY", "Y Y Y", "Y . <", "YY .", "<<<<<YYYYYYYYY <<<<<YYYYYYYYY <<<<<YYYYYYYYY <<<<<YYYYYYYYY"},
		"rank":     {"o", "1", "1s4", "1q2bo3", "1w", "1wo2bo3", "9q9b9s9w9q9b9s9"},
		"add":      {"0", "1", "7", "00000010", "996000"},
		"system":   {"1", "1 5 10 50", "1 2", "1 60 3600", "01 0010 00000100", "1 10 100 1000", "1 10 100 1000 10000 100000", "1 1000000"},
		"as":       {"r", "a", "c", "k", "d"},
		"loose":    {"I", "IXV", "IIX", "MMMMMMMMMMMMMMMM"},
		"sum":      {"a", "cab", "*", "********************"},
		"readings": {"Y", "YY", "<", "<Y<Y", "Y<Y<Y<", "YYYYYYYY"},
		"kinds":    {"", "o", "1", "XIV", "jd", "<YYYY", "0", "x", " ", "Y Y"},
	}
}

// brokenNumbers has rests that are not one or more numbers.
func brokenNumbers() []string {
	return []string{
		"", " ", "  ", " 1", "1 ", " 1 ", "1  2", "1   2", "  1", "1  ", "1 10 ", " 1 10", "1  10", "1 10  100", "\t1", "1\t", "1\t10", "1\r", "\r", "1\v10", "1\f", "1 \t10", "1\x00", "\x001", "1\x0010", "1\u00a010",
		"-1", "+1", "-0", "+0", "--1", "1-", "1+", "1 -10", "1 +10", "-1 10", "-", "+", "1 -", "1.0", "1.", ".1", ".", "1,10", "1;10", "1,", "1_0", "1'0", "1/1", "/", ":", "1:", "0x1", "1e3", "1E3", "0b1", "0o7", "x", "X", "1x", "x1", "1 x", "x 1", "1 10x", "o", "I", "one", "NaN", "Inf", "ok",
		"000000001", "000000000", "123456789", "100000000", "999999999", "1 000000010", "000000001 10", "1 100000000", "1 123456789", "4294967297", "18446744073709551617", "00000000000000000001", "99999999999999999999",
		"\xff", "1\xff", "\xff1", "1 \xff", "\xb1", "１", "٣", "1 ２", "²", "½", "〇", "𝟏", strings.Repeat("1", 300), strings.Repeat("0", 300), strings.Repeat(" ", 300), strings.Repeat("1 ", 100),
	}
}

// brokenRests has, for each word with a rest, some with which it fails, whatever the number is from 1 to 3999.
func brokenRests() map[string][]string {
	rests := map[string][]string{
		"number":   append(brokenNumbers(), "1 2", "1 1", "7 14", "1 10 100", "0 0", "99999999 0", "00000001 2"),
		"add":      append(brokenNumbers(), "99999999", "1 2", "1 1", "0 0", "99999999 0", "7 7 7"),
		"system":   brokenNumbers(),
		"as":       noKinds(),
		"loose":    brokenTexts(),
		"sum":      noWords(),
		"readings": noPressed(),
	}
	for _, list := range noSystems() {
		// Negative numbers and some very great ones are no numbers of a rest, others are no values.
		rests["system"] = append(rests["system"], strings.Trim(fmt.Sprint(list), "[]"))
	}
	for word, kind := range map[string]string{"roman": "r", "alpha": "a", "clay": "c", "rank": "k"} {
		rests[word] = append(noNumerals(kind), " ", "  ", "0", "00", "10", "14", "?", "I ", " I", "a ", " a", "Y ", " Y", "1 ", " 1", "o ", " o", ". ", "I\r", "a\r", "Y\r", "1\r", "I I", "a a", "1 1", "1s 4")
	}
	for word, texts := range rests {
		rests[word] = shortLines(word, texts)
	}
	return rests
}

// shortLines has the texts that can stand as the rest of a line of a script with room for others.
func shortLines(word string, texts []string) []string {
	var short []string
	for _, text := range texts {
		if len(word)+len(text) < 500 && !strings.Contains(text, "\n") {
			short = append(short, text)
		}
	}
	return short
}

// isWordOf reports whether a text is one of some words.
func isWordOf(words string, text string) bool {
	for _, word := range strings.Fields(words) {
		if word == text {
			return true
		}
	}
	return false
}

// nearWords has texts near to a word, but not it.
func nearWords(word string) []string {
	near := []string{strings.ToUpper(word), "", word + word, word + "\t", "\t" + word, word + "\r", word + "\x00", "\x00" + word, word + "\xff", "\xff" + word, "ｘ" + word, word + "-", "-" + word, word + ".", word + ":", word + "\u00a0", word + "1"}
	for i := range len(word) {
		near = append(near, word[:i]+strings.ToUpper(word[i:i+1])+word[i+1:], word[:i], word[i+1:], word[:i]+word[i+1:], word[:i]+"?"+word[i+1:], word[:i]+"\x00"+word[i:])
	}
	for letter := 'a'; letter <= 'z'; letter++ {
		near = append(near, word+string(letter), string(letter)+word, string(letter)+word[1:], word[:len(word)-1]+string(letter))
	}
	return near
}

// otherLines has lines that are no command.
func otherLines() []string {
	lines := []string{
		"", " ", "  ", "   ", "\t", "\r", "\x00", "\xff", "\xc3\x28", "zzz", "what", "no", "ok", "-", "too long", "help", "quit", "#", "1", "7", "99999999", " 1", "1 2", "I", "XIV", "a", "r", "c", "k", "d", "as,r", "as\tr", "number=1", "number\t1", "number:1", "number1", "add1", "roman:XIV",
		"decimal 14", "dec 14", "r XIV", "a jd", "c Y", "k 1", "d 14", "long", "same 1 2", "steps", "size", "plain", "less", "many 1", "near 5", "nines cab", "from 1", "digits", "value", "strict XIV", "places 60", "kind", "system,1", "ｓｈｏｗ", "ｎｕｍｂｅｒ 1", "zahl 7", "número 7",
		strings.Repeat("x", 300), strings.Repeat(" ", 300), strings.Repeat("show", 60), strings.Repeat("show ", 60),
	}
	for _, word := range strings.Fields(wordsPlain) {
		lines = append(lines, word+" ", word+"  ", word+" 1", word+" x", word+" "+word, " "+word, "  "+word, " "+word+" ", word+" -", word+" \t", word+" \xff")
		for _, near := range nearWords(word) {
			if !isWordOf(wordsPlain, near) {
				lines = append(lines, near)
			}
		}
	}
	for _, word := range strings.Fields(wordsTold) {
		lines = append(lines, word, " "+word, "\t"+word)
		for _, rest := range ownRests()[word] {
			lines = append(lines, " "+word+" "+rest, "  "+word+" "+rest, word+"\t"+strings.ReplaceAll(rest, " ", "\t"))
			for _, near := range nearWords(word) {
				if !isWordOf(wordsTold, near) {
					lines = append(lines, near+" "+rest)
				}
			}
		}
	}
	return lines
}

// chanceLine is a line by chance; one of three is no command, or fails for most numbers.
func chanceLine(chance *rand.Rand, broken map[string][]string, others []string) string {
	one := func(texts []string) string { return texts[chance.Intn(len(texts))] }
	word := one(strings.Fields(wordsTold))
	switch chance.Intn(9) {
	case 0:
		return one(others)
	case 1:
		if texts := broken[word]; len(texts) > 0 {
			return word + " " + one(texts)
		}
	case 2:
		return word + " " + one(ownRests()[one(strings.Fields(wordsTold))])
	case 3:
		return fmt.Sprint("number ", chance.Intn(4100))
	case 4, 5:
		return word + " " + one(ownRests()[word])
	}
	return one(strings.Fields(wordsPlain))
}

// chanceScript is a script by chance, of complete lines with room for some bytes.
func chanceScript(chance *rand.Rand, broken map[string][]string, others []string, room int) string {
	script := ""
	for range chance.Intn(70) {
		if line := chanceLine(chance, broken, others); len(script)+len(line)+1+room <= greatestScript {
			script += line + "\n"
		}
	}
	return script
}
