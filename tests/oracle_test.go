package tests

import (
	"math"
	"strings"
	"testing"
)

// What the document says of Roman letters, told a second time in the plainest way,
// so that the program is not measured with itself.

const textOrder = "CDILMVX"

func valueOfSign(sign byte) int {
	switch sign {
	case 'I':
		return 1
	case 'V':
		return 5
	case 'X':
		return 10
	case 'L':
		return 50
	case 'C':
		return 100
	case 'D':
		return 500
	case 'M':
		return 1000
	}
	return 0
}

// plainLoose is the value of a loose text, letter by letter from the front; 0 for other texts.
func plainLoose(s string) int {
	if len(s) == 0 || len(s) > 16 {
		return 0
	}
	sum := 0
	for i := range len(s) {
		value := valueOfSign(s[i])
		if value == 0 {
			return 0
		}
		if i+1 < len(s) && valueOfSign(s[i+1]) > value {
			value = -value
		}
		sum += value
	}
	return sum
}

// plainStrict is the strict text of a number from 1 to 3999, by its decimal digits.
func plainStrict(n int) string {
	ones := []string{"", "I", "II", "III", "IV", "V", "VI", "VII", "VIII", "IX"}
	tens := strings.NewReplacer("I", "X", "V", "L", "X", "C")
	hundreds := strings.NewReplacer("I", "C", "V", "D", "X", "M")
	return strings.Repeat("M", n/1000) +
		hundreds.Replace(ones[n/100%10]) +
		tens.Replace(ones[n/10%10]) +
		ones[n%10]
}

// plainPiled is the text with added letters only, by decimal digits.
func plainPiled(n int) string {
	text := strings.Repeat("M", n/1000)
	for _, rank := range []struct {
		unit      int
		five, one string
	}{{100, "D", "C"}, {10, "L", "X"}, {1, "V", "I"}} {
		digit := n / rank.unit % 10
		text += strings.Repeat(rank.five, digit/5) + strings.Repeat(rank.one, digit%5)
	}
	return text
}

// eachText calls visit with all texts of exactly so many letters, in the order of texts.
func eachText(letters int, visit func(string)) {
	text := make([]byte, letters)
	var fill func(int)
	fill = func(i int) {
		if i == letters {
			visit(string(text))
			return
		}
		for j := range len(textOrder) {
			text[i] = textOrder[j]
			fill(i + 1)
		}
	}
	fill(0)
}

// plainShort finds the first of the shortest texts of each value up to 3999. It keeps the first text for each
// first letter and value, which is enough, as a letter in front looks at nothing else.
func plainShort() map[int]string {
	type key struct {
		first byte
		value int
	}
	best := map[int]string{}
	known := map[key]bool{}
	level := map[key]string{}
	for i := range len(textOrder) {
		s := textOrder[i : i+1]
		level[key{s[0], plainLoose(s)}] = s
	}
	for len(level) > 0 && len(best) < 3999 {
		next := map[key]string{}
		for k, s := range level {
			known[k] = true
			if old, ok := best[k.value]; k.value <= 3999 && (!ok || len(old) == len(s) && s < old) {
				best[k.value] = s
			}
		}
		for _, s := range level {
			for i := range len(textOrder) {
				longer := textOrder[i:i+1] + s
				k := key{longer[0], plainLoose(longer)}
				if old, ok := next[k]; !known[k] && (!ok || longer < old) {
					next[k] = longer
				}
			}
		}
		level = next
	}
	return best
}

// outsideRoman has numbers without a Roman text.
func outsideRoman() []int {
	return []int{math.MinInt, math.MinInt + 1, -4000, -3999, -1000, -2, -1, 0, 4000, 4001, 10000, 1 << 32, math.MaxInt - 1, math.MaxInt}
}

// brokenTexts has texts that are no loose texts.
func brokenTexts() []string {
	broken := []string{
		"", " ", "\x00", "\n", "i", "m", "A", "B", "E", "H", "J", "K", "N", "U", "W", "Y", "Z",
		"0", "1", "-", "*", "\xff", "\xc9", "Ⅳ", "Ⅿ", "mcmxciv", "McM", "IIII ", " IV", "IV ", "I V", "I\nV", "IV\n", "I,V",
		"X\x00", "\x00X", "XYX", "M\xffM", "1994", "MCMXCiV", "AMMMMMMMMMMMMMMM", "MMMMMMMMMMMMMMMA",
		strings.Repeat("A", 16), strings.Repeat("I", 17), strings.Repeat("M", 17), strings.Repeat("I", 18), strings.Repeat("M", 32),
		strings.Repeat("I", 256), strings.Repeat("I", 257), strings.Repeat("I", 272), strings.Repeat("M", 1<<16), strings.Repeat("X", 1<<16+1),
	}
	for i := range 16 {
		text := []byte("MMMDCCCLXXXVIIII")
		text[i] += 'a' - 'A'
		broken = append(broken, string(text))
	}
	return broken
}

func wantText(t *testing.T, what string, got string, ok bool, want string) {
	t.Helper()
	if !ok || got != want {
		t.Errorf("%s: %q, %v; expected %q, true", what, got, ok, want)
	}
}

func wantNumber(t *testing.T, what string, got int, ok bool, want int) {
	t.Helper()
	if !ok || got != want {
		t.Errorf("%s: %d, %v; expected %d, true", what, got, ok, want)
	}
}

func wantNoText(t *testing.T, what string, got string, ok bool) {
	t.Helper()
	if ok || got != "" {
		t.Errorf("%s: %q, %v; expected \"\", false", what, got, ok)
	}
}

func wantNoNumber(t *testing.T, what string, got int, ok bool) {
	t.Helper()
	if ok || got != 0 {
		t.Errorf("%s: %d, %v; expected 0, false", what, got, ok)
	}
}
