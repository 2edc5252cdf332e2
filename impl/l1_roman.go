package impl

// RomanMax is the greatest number with Roman letters.
const RomanMax = 3999

const (
	maxLooseLetters = 16
	maxSameLetters  = 5
	maxSameValue    = 5000
	// maxTakenOff bounds how much letters in front of a text can lower its value:
	// D, C, L, X, V and I are taken off at most once each, in front of an M,
	// for a letter that is added makes up for all that it lets be taken off again.
	maxTakenOff = 500 + 100 + 50 + 10 + 5 + 1
)

// letter is a Roman letter. Letters are numbered in the order of their bytes,
// so that the first one that fits gives the first text.
type letter int

const (
	letterC letter = iota
	letterD
	letterI
	letterL
	letterM
	letterV
	letterX
	letterCount
)

const letterSigns = "CDILMVX"

var letterValues = [letterCount]int{100, 500, 1, 50, 1000, 5, 10}

func letterOf(sign byte) (letter, bool) {
	for l := range letterCount {
		if l.sign() == sign {
			return l, true
		}
	}
	return 0, false
}

func (l letter) sign() byte {
	return letterSigns[l]
}

func (l letter) value() int {
	return letterValues[l]
}

// isTakenOff reports whether a letter with another one right behind it is taken off.
func (l letter) isTakenOff(behind letter) bool {
	return l.value() < behind.value()
}

// before returns what a loose text becomes with the letter in front of it.
func (l letter) before(t looseText) looseText {
	if l.isTakenOff(t.first) {
		return looseText{l, t.value - l.value()}
	}
	return looseText{l, t.value + l.value()}
}

// looseText is what matters of a loose text to a letter in front of it.
type looseText struct {
	first letter
	value int
}

// noText stands for the empty text: nothing is taken off in front of an I.
func noText() looseText {
	return looseText{first: letterI}
}

// without returns what must stand behind the first letter of a loose text, if this begins with another one.
func (t looseText) without(next letter) looseText {
	if t.first.isTakenOff(next) {
		return looseText{next, t.value + t.first.value()}
	}
	return looseText{next, t.value - t.first.value()}
}

// romanPiece is a part of a Roman text and what it adds.
type romanPiece struct {
	text  string
	value int
}

func strictPieces() []romanPiece {
	return []romanPiece{
		{"M", 1000}, {"CM", 900}, {"D", 500}, {"CD", 400},
		{"C", 100}, {"XC", 90}, {"L", 50}, {"XL", 40},
		{"X", 10}, {"IX", 9}, {"V", 5}, {"IV", 4}, {"I", 1},
	}
}

func addedPieces() []romanPiece {
	return []romanPiece{
		{"M", 1000}, {"D", 500}, {"C", 100}, {"L", 50}, {"X", 10}, {"V", 5}, {"I", 1},
	}
}

// joinPieces takes the greatest pieces first; these must be in falling order and end with 1.
func joinPieces(n int, pieces []romanPiece) string {
	var text []byte
	for _, p := range pieces {
		for n >= p.value {
			text = append(text, p.text...)
			n -= p.value
		}
	}
	return string(text)
}

func hasRoman(n int) bool {
	return n >= 1 && n <= RomanMax
}

// RomanOf returns the strict text of a number, and true.
func RomanOf(n int) (string, bool) {
	if !hasRoman(n) {
		return "", false
	}
	return joinPieces(n, strictPieces()), true
}

// RomanLoose returns the value of a loose text, and true.
func RomanLoose(s string) (int, bool) {
	if len(s) < 1 || len(s) > maxLooseLetters {
		return 0, false
	}
	text := noText()
	for i := len(s) - 1; i >= 0; i-- {
		l, ok := letterOf(s[i])
		if !ok {
			return 0, false
		}
		text = l.before(text)
	}
	return text.value, true
}

// strictValue returns the value of a strict text, and true.
func strictValue(s string) (int, bool) {
	// A strict text is also a loose one, with the same value.
	n, ok := RomanLoose(s)
	if !ok {
		return 0, false
	}
	strict, ok := RomanOf(n)
	if !ok || strict != s {
		return 0, false
	}
	return n, true
}

// RomanStrict reports whether a text is the strict text of some number.
func RomanStrict(s string) bool {
	_, ok := strictValue(s)
	return ok
}

// fewestLetters tells, by value and first letter, how many letters the shortest
// loose texts have; 0 where no text is known.
type fewestLetters [][letterCount]int8

func (f fewestLetters) of(t looseText) int {
	if t.value < 1 || t.value >= len(f) {
		return 0
	}
	return int(f[t.value][t.first])
}

// lengthen puts each letter in front of the texts that were new with one letter less, and returns what is new.
func (f fewestLetters) lengthen(shorter []looseText, letters int) []looseText {
	longer := make([]looseText, 0, 2*len(shorter))
	for _, rest := range shorter {
		for l := range letterCount {
			t := l.before(rest)
			if t.value < len(f) && f.of(t) == 0 {
				f[t.value][l] = int8(letters)
				longer = append(longer, t)
			}
		}
	}
	return longer
}

// findFewest finds all texts that are shorter than the shortest ones of a number, and these,
// and tells how many letters the shortest ones have.
func findFewest(n int) (fewestLetters, int) {
	found := make(fewestLetters, n+maxTakenOff+1)
	texts := []looseText{noText()}
	letters := 0
	// This ends, as the strict text of the number is a loose one.
	for found[n] == [letterCount]int8{} {
		letters++
		texts = found.lengthen(texts, letters)
	}
	return found, letters
}

// firstOf returns the text with the first possible letter that has this many letters, of which there is one;
// wanted tells which text is looked for if it begins with a letter.
func (f fewestLetters) firstOf(letters int, wanted func(letter) looseText) looseText {
	l := letter(0)
	for l < letterCount-1 && f.of(wanted(l)) != letters {
		l++
	}
	return wanted(l)
}

// RomanShort returns the first, as texts, of the shortest loose texts with a value from 1 to RomanMax, and true.
func RomanShort(n int) (string, bool) {
	if !hasRoman(n) {
		return "", false
	}
	found, fewest := findFewest(n)
	wanted := func(first letter) looseText { return looseText{first, n} }
	var text []byte
	for letters := fewest; letters > 0; letters-- {
		rest := found.firstOf(letters, wanted)
		text = append(text, rest.first.sign())
		wanted = rest.without
	}
	return string(text), true
}

// RomanAdd returns the strict text of the sum of the values of two strict texts, and true.
func RomanAdd(s string, t string) (string, bool) {
	a, ok := strictValue(s)
	if !ok {
		return "", false
	}
	b, ok := strictValue(t)
	if !ok {
		return "", false
	}
	return RomanOf(a + b)
}

// RomanPiled returns the text of a number from 1 to RomanMax with letters that are only added, the greatest ones first, as short as possible, and true.
func RomanPiled(n int) (string, bool) {
	if !hasRoman(n) {
		return "", false
	}
	return joinPieces(n, addedPieces()), true
}

// RomanLongest returns the least number from 1 to n, n at most RomanMax, whose strict text is longest, and true.
func RomanLongest(n int) (int, bool) {
	if !hasRoman(n) {
		return 0, false
	}
	pieces := strictPieces()
	longest, letters := 0, 0
	for i := 1; i <= n; i++ {
		if count := len(joinPieces(i, pieces)); count > letters {
			longest, letters = i, count
		}
	}
	return longest, true
}

// RomanSame returns how many loose texts of k letters, k from 1 to 5, have a value, from 1 to 5000, and true.
func RomanSame(k int, n int) (int, bool) {
	if k < 1 || k > maxSameLetters || n < 1 || n > maxSameValue {
		return 0, false
	}
	counts := map[looseText]int{noText(): 1}
	longer := map[looseText]int{}
	// The table holds all texts of one letter less; it is cleared for each number of letters.
	for range k - 1 {
		clear(longer)
		for text, count := range counts {
			for l := range letterCount {
				longer[l.before(text)] += count
			}
		}
		counts, longer = longer, counts
	}
	same := 0
	for first := range letterCount {
		for next := range letterCount {
			same += counts[looseText{first, n}.without(next)]
		}
	}
	return same, true
}
