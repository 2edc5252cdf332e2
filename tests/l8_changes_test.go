package tests

import (
	"fmt"
	"math"
	"slices"
	"strings"
	"sync"
	"testing"

	"loop.example/peoplesnumerals/impl"
)

// changed tells of a call with a kind and a number.
func changed(name string, kind string, n int) string {
	return fmt.Sprintf("%s(%q, %d)", name, kind, n)
}

// knownNumerals has numerals of each kind with their numbers, written by hand.
func knownNumerals() map[string]map[int]string {
	return map[string]map[int]string{
		"r": {1: "I", 2: "II", 4: "IV", 14: "XIV", 60: "LX", 100: "C", 500: "D", 1000: "M", 1994: "MCMXCIV", 2000: "MM", 3888: "MMMDCCCLXXXVIII", 3998: "MMMCMXCVIII", 3999: "MMMCMXCIX"},
		"a": {1: "a", 2: "b", 4: "d", 14: "jd", 60: "o", 100: "s", 500: "w", 900: "*", 1000: "'a", 1234: "'atld", 3999: "'c*ri", 4000: "'d", 9998: "'i*rh", 9999: "'i*ri"},
		"c": {0: ".", 1: "Y", 2: "YY", 10: "<", 14: "<YYYY", 59: "<<<<<YYYYYYYYY", 60: "Y .", 61: "Y Y", 600: "< .", 3600: "Y . .", 3610: "Y . <", 9999: "YY <<<<YYYYYY <<<YYYYYYYYY", 12959998: "<<<<<YYYYYYYYY <<<<<YYYYYYYYY <<<<<YYYYYYYYY <<<<<YYYYYYYY",
			12959999: "<<<<<YYYYYYYYY <<<<<YYYYYYYYY <<<<<YYYYYYYYY <<<<<YYYYYYYYY"},
		"k": {0: "o", 1: "1", 2: "2", 10: "1s", 14: "1s4", 60: "6s", 100: "1b", 203: "2bo3", 1000: "1q", 3999: "3q9b9s9", 10000: "1w", 10203: "1wo2bo3", 12959999: "1q2b9s5w9q9b9s9", 12960000: "1q2b9s6w", 99999998: "9q9b9s9w9q9b9s8", 99999999: "9q9b9s9w9q9b9s9"},
		"d": {0: "0", 1: "1", 2: "2", 9: "9", 10: "10", 14: "14", 100: "100", 1000: "1000", 3999: "3999", 10203: "10203", 12959999: "12959999", 12960000: "12960000", 10000000: "10000000", 99999998: "99999998", 99999999: "99999999"},
	}
}

// Promise 50, and what ChangeOf returns.

func TestChangeOf(t *testing.T) {
	for kind, numerals := range knownNumerals() {
		for n, want := range numerals {
			got, ok := impl.ChangeOf(kind, n)
			wantText(t, changed("ChangeOf", kind, n), got, ok, want)
		}
	}
	eachKind(func(kind string) {
		eachNumber(func(n int) {
			got, ok := impl.ChangeOf(kind, n)
			if want := plainNumeral(kind, n); want != "" {
				wantText(t, changed("ChangeOf", kind, n), got, ok, want)
			} else {
				wantNoText(t, changed("ChangeOf", kind, n), got, ok)
			}
		})
	})
}

// The least and the greatest number of each kind, and one less and one more.
func TestChangeOfEdges(t *testing.T) {
	for kind, between := range kindRanges() {
		for _, n := range []int{between[0], between[0] + 1, between[1] - 1, between[1]} {
			got, ok := impl.ChangeOf(kind, n)
			wantText(t, changed("ChangeOf", kind, n), got, ok, plainNumeral(kind, n))
		}
		for _, n := range []int{between[0] - 1, between[1] + 1} {
			got, ok := impl.ChangeOf(kind, n)
			wantNoText(t, changed("ChangeOf", kind, n), got, ok)
		}
	}
}

func TestChangeOfInvalid(t *testing.T) {
	eachKind(func(kind string) {
		numbers := outsideOf(kind)
		for n := 1; n <= 2000; n++ {
			numbers = append(numbers, -n, greatestDecimal+n)
		}
		for _, n := range numbers {
			got, ok := impl.ChangeOf(kind, n)
			wantNoText(t, changed("ChangeOf", kind, n), got, ok)
			length, ok := impl.ChangeLength(kind, n)
			wantNoNumber(t, changed("ChangeLength", kind, n), length, ok)
		}
	})
}

// Texts that tell no kind, for all functions that are given one.
func TestChangesOfNoKind(t *testing.T) {
	for _, kind := range noKinds() {
		for _, n := range append([]int{0, 1, 5, 14, 3999, 4000, 9999, 12959999, greatestDecimal}, outsideAll()...) {
			got, ok := impl.ChangeOf(kind, n)
			wantNoText(t, changed("ChangeOf", kind, n), got, ok)
			length, ok := impl.ChangeLength(kind, n)
			wantNoNumber(t, changed("ChangeLength", kind, n), length, ok)
		}
		for _, s := range []string{"", "o", "0", "1", "5", "I", "XIV", "a", "jd", "Y", "<YYYY", ".", "1s4", "14", kind} {
			n, ok := impl.ChangeRead(kind, s)
			wantNoNumber(t, quoted("ChangeRead", kind, s), n, ok)
			text, ok := impl.ChangeTo(kind, kind, s)
			wantNoText(t, quoted("ChangeTo", kind, kind, s), text, ok)
			eachKind(func(other string) {
				text, ok := impl.ChangeTo(kind, other, s)
				wantNoText(t, quoted("ChangeTo", kind, other, s), text, ok)
				text, ok = impl.ChangeTo(other, kind, s)
				wantNoText(t, quoted("ChangeTo", other, kind, s), text, ok)
			})
		}
	}
}

func TestPromise50(t *testing.T) {
	eachKind(func(kind string) {
		made := 0
		eachNumber(func(n int) {
			text, ok := impl.ChangeOf(kind, n)
			if !ok {
				return
			}
			made++
			got, ok := impl.ChangeRead(kind, text)
			wantNumber(t, quoted("ChangeRead", kind, text), got, ok, n)
		})
		if made < greatestStrict {
			t.Errorf("ChangeOf of kind %q succeeds for %d numbers", kind, made)
		}
	})
}

// Promise 51, and what ChangeRead returns.

func checkChangeRead(t *testing.T, reader numeralReader, kind string, s string) {
	t.Helper()
	got, ok := impl.ChangeRead(kind, s)
	if want := reader.read(kind, s); want >= 0 {
		wantNumber(t, quoted("ChangeRead", kind, s), got, ok, want)
	} else {
		wantNoNumber(t, quoted("ChangeRead", kind, s), got, ok)
	}
}

func TestChangeRead(t *testing.T) {
	reader := newNumeralReader()
	for kind, numerals := range knownNumerals() {
		for want, text := range numerals {
			got, ok := impl.ChangeRead(kind, text)
			wantNumber(t, quoted("ChangeRead", kind, text), got, ok, want)
			for _, beside := range []string{text + " ", " " + text, text + "\n", "-" + text, "+" + text, text + "\x00", text + text + text, "0" + text, strings.ToUpper(text) + strings.ToLower(text)} {
				checkChangeRead(t, reader, kind, beside)
			}
			eachKind(func(other string) { checkChangeRead(t, reader, other, text) })
		}
	}
	eachNumber(func(n int) {
		eachKind(func(kind string) {
			if text := plainNumeral(kind, n); text != "" {
				got, ok := impl.ChangeRead(kind, text)
				wantNumber(t, quoted("ChangeRead", kind, text), got, ok, n)
			}
		})
	})
}

// A text is read as the kind that is told, whatever other kind it is of, too.
func TestChangeReadKinds(t *testing.T) {
	for _, known := range []struct {
		kind, text string
		want       int
	}{
		{"a", "o", 60}, {"k", "o", 0}, {"k", "1", 1}, {"d", "1", 1}, {"k", "9", 9}, {"d", "9", 9}, {"d", "0", 0}, {"d", "10", 10}, {"c", ".", 0}, {"c", "Y", 1}, {"r", "C", 100}, {"a", "c", 3}, {"a", "r", 90}, {"a", "k", 20}, {"a", "d", 4}, {"a", "s", 100}, {"a", "w", 500},
	} {
		got, ok := impl.ChangeRead(known.kind, known.text)
		wantNumber(t, quoted("ChangeRead", known.kind, known.text), got, ok, known.want)
	}
	for _, none := range [][2]string{
		{"r", "o"}, {"c", "o"}, {"d", "o"}, {"r", "1"}, {"a", "1"}, {"c", "1"}, {"k", "0"}, {"r", "0"}, {"k", "10"}, {"k", "11"}, {"d", "."}, {"d", "1s"}, {"a", "C"}, {"r", "c"}, {"a", "Y"}, {"a", "y "}, {"k", "s"}, {"k", "w"}, {"k", "s5"}, {"d", "I"}, {"r", "i"}, {"r", "IIX"}, {"r", "IIII"},
	} {
		got, ok := impl.ChangeRead(none[0], none[1])
		wantNoNumber(t, quoted("ChangeRead", none[0], none[1]), got, ok)
	}
}

func TestChangeReadInvalid(t *testing.T) {
	eachKind(func(kind string) {
		for _, s := range noNumerals(kind) {
			got, ok := impl.ChangeRead(kind, s)
			wantNoNumber(t, quoted("ChangeRead", kind, s), got, ok)
		}
	})
	// What is no numeral of one kind may be one of another one.
	reader := newNumeralReader()
	eachKind(func(from string) {
		for _, s := range noNumerals(from) {
			eachKind(func(kind string) { checkChangeRead(t, reader, kind, s) })
		}
	})
}

func TestChangeReadShortTexts(t *testing.T) {
	reader := newNumeralReader()
	eachShortText(func(s string) {
		eachKind(func(kind string) { checkChangeRead(t, reader, kind, s) })
	})
}

func TestPromise51(t *testing.T) {
	read := map[string]int{}
	check := func(s string) {
		eachKind(func(kind string) {
			n, ok := impl.ChangeRead(kind, s)
			if !ok {
				return
			}
			read[kind]++
			got, ok := impl.ChangeOf(kind, n)
			wantText(t, changed("ChangeOf", kind, n), got, ok, s)
		})
	}
	eachShortText(check)
	eachKind(func(kind string) {
		for _, s := range noNumerals(kind) {
			check(s)
		}
		for _, n := range changeNumbers() {
			check(plainNumeral(kind, n))
		}
	})
	eachKind(func(kind string) {
		if read[kind] < 100 {
			t.Errorf("ChangeRead of kind %q succeeds for %d texts", kind, read[kind])
		}
	})
}

// Promise 52, and what ChangeTo returns.

func checkChangeTo(t *testing.T, from string, to string, n int) {
	t.Helper()
	s := plainNumeral(from, n)
	if s == "" {
		return
	}
	got, ok := impl.ChangeTo(from, to, s)
	if want := plainNumeral(to, n); want != "" {
		wantText(t, quoted("ChangeTo", from, to, s), got, ok, want)
	} else {
		wantNoText(t, quoted("ChangeTo", from, to, s), got, ok)
	}
}

func TestChangeTo(t *testing.T) {
	for _, known := range [][4]string{
		{"r", "k", "XIV", "1s4"}, {"r", "a", "XIV", "jd"}, {"r", "c", "XIV", "<YYYY"}, {"r", "d", "XIV", "14"}, {"r", "r", "XIV", "XIV"}, {"k", "r", "1s4", "XIV"}, {"a", "r", "jd", "XIV"}, {"d", "r", "14", "XIV"}, {"c", "r", "<YYYY", "XIV"},
		{"a", "k", "o", "6s"}, {"k", "a", "6s", "o"}, {"k", "d", "o", "0"}, {"k", "c", "o", "."}, {"d", "k", "0", "o"}, {"c", "k", ".", "o"}, {"d", "c", "0", "."}, {"a", "d", "o", "60"}, {"a", "a", "o", "o"}, {"k", "k", "o", "o"}, {"d", "d", "0", "0"}, {"c", "c", ".", "."},
		{"k", "d", "1", "1"}, {"d", "k", "1", "1"}, {"r", "d", "MMMCMXCIX", "3999"}, {"d", "r", "3999", "MMMCMXCIX"}, {"a", "d", "'i*ri", "9999"}, {"d", "a", "9999", "'i*ri"}, {"d", "a", "4000", "'d"}, {"d", "k", "99999999", "9q9b9s9w9q9b9s9"}, {"k", "d", "9q9b9s9w9q9b9s9", "99999999"},
	} {
		got, ok := impl.ChangeTo(known[0], known[1], known[2])
		wantText(t, quoted("ChangeTo", known[:3]...), got, ok, known[3])
	}
	for _, none := range [][3]string{
		// The second kind does not have the number.
		{"d", "r", "0"}, {"d", "a", "0"}, {"k", "r", "o"}, {"k", "a", "o"}, {"c", "r", "."}, {"c", "a", "."}, {"d", "r", "4000"}, {"a", "r", "'d"}, {"a", "r", "'i*ri"}, {"d", "a", "10000"}, {"k", "a", "1w"}, {"k", "r", "1w"}, {"d", "c", "12960000"}, {"k", "c", "1q2b9s6w"}, {"d", "c", "99999999"},
		// The text is no numeral of the first kind, but may be one of the second one.
		{"r", "k", "1s4"}, {"k", "r", "XIV"}, {"r", "r", "IIX"}, {"r", "d", "14"}, {"d", "r", "XIV"}, {"d", "a", "o"}, {"r", "a", "o"}, {"k", "d", "0"}, {"d", "d", "00"}, {"d", "d", "014"}, {"d", "d", "+14"}, {"d", "d", "-14"}, {"d", "d", "100000000"}, {"k", "k", "14"}, {"a", "a", "dj"}, {"c", "c", "YYYY<"}, {"c", "c", ""}, {"r", "r", ""}, {"a", "a", ""}, {"k", "k", ""}, {"d", "d", ""},
	} {
		got, ok := impl.ChangeTo(none[0], none[1], none[2])
		wantNoText(t, quoted("ChangeTo", none[:]...), got, ok)
	}
}

func TestChangeToEachKind(t *testing.T) {
	numbers := changeNumbers()
	for n := 0; n <= 10100; n++ {
		numbers = append(numbers, n)
	}
	eachKind(func(from string) {
		eachKind(func(to string) {
			for _, n := range numbers {
				checkChangeTo(t, from, to, n)
			}
		})
	})
}

func TestChangeToInvalid(t *testing.T) {
	eachKind(func(from string) {
		for _, s := range noNumerals(from) {
			eachKind(func(to string) {
				got, ok := impl.ChangeTo(from, to, s)
				wantNoText(t, quoted("ChangeTo", from, to, s), got, ok)
			})
		}
	})
}

func TestPromise52(t *testing.T) {
	led := map[string]int{}
	check := func(s string) {
		eachKind(func(from string) {
			eachKind(func(to string) {
				text, ok := impl.ChangeTo(from, to, s)
				if !ok {
					return
				}
				led[from+to]++
				back, ok := impl.ChangeTo(to, from, text)
				wantText(t, quoted("ChangeTo", to, from, text), back, ok, s)
			})
		})
	}
	for _, n := range changeNumbers() {
		eachKind(func(kind string) { check(plainNumeral(kind, n)) })
	}
	for n := range 2000 {
		eachKind(func(kind string) { check(plainNumeral(kind, n)) })
	}
	eachKind(func(kind string) {
		for _, s := range noNumerals(kind) {
			check(s)
		}
		eachKind(func(to string) {
			if led[kind+to] < 1000 {
				t.Errorf("ChangeTo from %q to %q succeeds for %d texts", kind, to, led[kind+to])
			}
		})
	})
}

// Promise 53, and what ChangeLength returns.

func TestChangeLength(t *testing.T) {
	for kind, numerals := range knownNumerals() {
		for n, text := range numerals {
			got, ok := impl.ChangeLength(kind, n)
			wantNumber(t, changed("ChangeLength", kind, n), got, ok, len(text))
		}
	}
	for _, known := range []struct {
		kind    string
		n, want int
	}{
		{"r", 1, 1}, {"r", 3888, 15}, {"r", 3999, 9}, {"a", 1, 1}, {"a", 1000, 2}, {"a", 9999, 5}, {"c", 0, 1}, {"c", 59, 14}, {"c", 60, 3}, {"c", 3600, 5}, {"c", 12959999, 59}, {"k", 0, 1}, {"k", 10, 2}, {"k", 99999999, 15}, {"k", 10010001, 7}, {"k", 10100101, 11},
		{"d", 0, 1}, {"d", 9, 1}, {"d", 10, 2}, {"d", 9999999, 7}, {"d", 10000000, 8}, {"d", 99999999, 8},
	} {
		got, ok := impl.ChangeLength(known.kind, known.n)
		wantNumber(t, changed("ChangeLength", known.kind, known.n), got, ok, known.want)
	}
	eachKind(func(kind string) {
		eachNumber(func(n int) {
			got, ok := impl.ChangeLength(kind, n)
			if want := len(plainNumeral(kind, n)); want > 0 {
				wantNumber(t, changed("ChangeLength", kind, n), got, ok, want)
			} else {
				wantNoNumber(t, changed("ChangeLength", kind, n), got, ok)
			}
		})
	})
}

func TestPromise53(t *testing.T) {
	eachKind(func(kind string) {
		told := 0
		eachNumber(func(n int) {
			length, ok := impl.ChangeLength(kind, n)
			text, made := impl.ChangeOf(kind, n)
			if ok != made {
				t.Errorf("ChangeLength(%q, %d): %v, but ChangeOf: %v", kind, n, ok, made)
			}
			if !ok {
				return
			}
			told++
			if length < 1 || length != len(text) {
				t.Errorf("ChangeLength(%q, %d): %d for %q", kind, n, length, text)
			}
		})
		if told < greatestStrict {
			t.Errorf("ChangeLength of kind %q succeeds for %d numbers", kind, told)
		}
	})
}

// Promise 54, and what ChangeShort returns.

func TestChangeShort(t *testing.T) {
	for n, want := range map[int]string{
		0: "ckd", 1: "rackd", 2: "akd", 3: "akd", 4: "akd", 5: "rakd", 9: "akd", 10: "rac", 11: "racd", 14: "ad", 15: "rad", 20: "a", 50: "ra", 59: "ad", 60: "a", 100: "ra", 500: "ra", 501: "ra", 900: "a", 1000: "r", 1001: "r", 2000: "rak",
		3000: "ak", 3999: "d", 4000: "ak", 4001: "a", 9999: "d", 10000: "k", 10001: "k", 20000: "k", 100000: "k", 123456: "d", 10000000: "k", 10000001: "k", 12959999: "d", 12960000: "kd", 99990000: "kd", 99999998: "d", 99999999: "d",
	} {
		got, ok := impl.ChangeShort(n)
		wantText(t, call("ChangeShort", n), got, ok, want)
	}
	eachNumber(func(n int) {
		got, ok := impl.ChangeShort(n)
		if n > greatestDecimal {
			wantNoText(t, call("ChangeShort", n), got, ok)
		} else {
			wantText(t, call("ChangeShort", n), got, ok, plainShortKinds(n))
		}
	})
}

func TestChangeShortInvalid(t *testing.T) {
	numbers := outsideAll()
	for n := 1; n <= 5000; n++ {
		numbers = append(numbers, -n, greatestDecimal+n)
	}
	for _, n := range numbers {
		got, ok := impl.ChangeShort(n)
		wantNoText(t, call("ChangeShort", n), got, ok)
	}
}

func TestPromise54(t *testing.T) {
	found := map[string]bool{}
	eachNumber(func(n int) {
		kinds, ok := impl.ChangeShort(n)
		if !ok {
			return
		}
		if kinds == "" {
			t.Fatalf("ChangeShort(%d) has no kinds", n)
		}
		found[kinds] = true
		fewest, _ := impl.ChangeLength(kinds[:1], n)
		told := ""
		eachKind(func(kind string) {
			length, ok := impl.ChangeLength(kind, n)
			if strings.Contains(kinds, kind) {
				told += kind
				wantNumber(t, changed("ChangeLength", kind, n), length, ok, fewest)
			} else if ok && length <= fewest {
				t.Errorf("ChangeLength(%q, %d) is %d, but ChangeShort is %q", kind, n, length, kinds)
			}
		})
		if told != kinds {
			t.Errorf("ChangeShort(%d) is %q, in order %q", n, kinds, told)
		}
	})
	for _, kinds := range []string{"r", "a", "k", "d", "ra", "rac", "ad", "ak", "kd", "akd", "ckd", "rakd", "rackd"} {
		if !found[kinds] {
			t.Errorf("no number has the shortest kinds %q", kinds)
		}
	}
}

// Promise 55, and what ChangeKinds returns.

func TestChangeKinds(t *testing.T) {
	for s, want := range map[string]string{
		"1": "kd", "2": "kd", "9": "kd", "o": "ak", "0": "d", "10": "d", "14": "d", "99999999": "d", "I": "r", "XIV": "r", "MMMCMXCIX": "r", "C": "r", "D": "r", "a": "a", "r": "a", "c": "a", "k": "a", "d": "a", "s": "a", "b": "a", "q": "a", "w": "a", "*": "a", "'a": "a", "jd": "a", "'i*ri": "a",
		".": "c", "Y": "c", "<": "c", "Y .": "c", "<YYYY": "c", "1s": "k", "1s4": "k", "1w": "k", "1wo2bo3": "k", "9q9b9s9w9q9b9s9": "k",
		"": "", " ": "", "00": "", "01": "", "100000000": "", "-1": "", "+1": "", " 1": "", "1 ": "", "1\n": "", "IIII": "", "IIX": "", "i": "a", "A": "", "O": "", "S": "", "y": "a", "'": "", "aa": "", "oo": "", "so": "a", "ow": "", "s4": "", "1q0b": "", "0s": "", "Y<": "", "..": "", ". Y": "", "Y  Y": "", "X1": "", "1X": "", "rackd": "", "\x00": "", "\xff": "", "Ⅰ": "", "１": "",
	} {
		got, ok := impl.ChangeKinds(s)
		wantText(t, quoted("ChangeKinds", s), got, ok, want)
	}
	reader := newNumeralReader()
	check := func(s string) {
		got, ok := impl.ChangeKinds(s)
		wantText(t, quoted("ChangeKinds", s), got, ok, reader.kinds(s))
	}
	eachShortText(check)
	eachKind(func(kind string) {
		for _, s := range noNumerals(kind) {
			check(s)
		}
		eachNumber(func(n int) { check(plainNumeral(kind, n)) })
	})
	for _, s := range noKinds() {
		check(s)
	}
}

func TestPromise55(t *testing.T) {
	found := map[string]int{}
	check := func(s string) {
		kinds, ok := impl.ChangeKinds(s)
		if !ok {
			t.Errorf("ChangeKinds(%q) fails", s)
		}
		found[kinds]++
		told := ""
		eachKind(func(kind string) {
			if _, ok := impl.ChangeRead(kind, s); ok {
				told += kind
			}
		})
		if kinds != told {
			t.Errorf("ChangeKinds(%q) is %q, but ChangeRead succeeds for %q", s, kinds, told)
		}
	}
	eachShortText(check)
	eachKind(func(kind string) {
		for _, s := range noNumerals(kind) {
			check(s)
		}
		for _, n := range changeNumbers() {
			check(plainNumeral(kind, n))
		}
	})
	for _, kinds := range []string{"", "r", "a", "c", "k", "d", "ak", "kd"} {
		if found[kinds] == 0 {
			t.Errorf("no text has the kinds %q", kinds)
		}
	}
}

// The general rules: no state between calls, also if they are made at the same time.

// changeAnswers has what all functions return for a number and its numerals.
func changeAnswers(n int) []string {
	var answers []string
	addText := func(text string, ok bool) {
		answers = append(answers, fmt.Sprint(text, ok))
	}
	addNumber := func(number int, ok bool) {
		answers = append(answers, fmt.Sprint(number, ok))
	}
	eachKind(func(kind string) {
		text, ok := impl.ChangeOf(kind, n)
		addText(text, ok)
		addNumber(impl.ChangeRead(kind, text))
		addNumber(impl.ChangeLength(kind, n))
		eachKind(func(to string) { addText(impl.ChangeTo(kind, to, text)) })
		addText(impl.ChangeKinds(text))
	})
	addText(impl.ChangeShort(n))
	addText(impl.ChangeOf("x", n))
	addText(impl.ChangeTo("", "d", "o"))
	return answers
}

func TestChangesNoState(t *testing.T) {
	numbers := append(changeNumbers(), outsideAll()...)
	first := make([][]string, len(numbers))
	for i, n := range numbers {
		first[i] = changeAnswers(n)
	}
	var calls sync.WaitGroup
	for worker := range 4 {
		calls.Go(func() {
			for k := range numbers {
				i := (k*7 + worker*31) % len(numbers)
				if again := changeAnswers(numbers[i]); !slices.Equal(again, first[i]) {
					t.Errorf("%d: %v, and again %v", numbers[i], first[i], again)
				}
			}
		})
	}
	calls.Wait()
}

func TestChangesAgain(t *testing.T) {
	for range 100 {
		text, ok := impl.ChangeTo("r", "k", "XIV")
		wantText(t, quoted("ChangeTo", "r", "k", "XIV"), text, ok, "1s4")
		kinds, ok := impl.ChangeShort(14)
		wantText(t, call("ChangeShort", 14), kinds, ok, "ad")
		kinds, ok = impl.ChangeKinds("o")
		wantText(t, quoted("ChangeKinds", "o"), kinds, ok, "ak")
		kinds, ok = impl.ChangeKinds("")
		wantText(t, quoted("ChangeKinds", ""), kinds, ok, "")
		kinds, ok = impl.ChangeShort(math.MinInt)
		wantNoText(t, call("ChangeShort", math.MinInt), kinds, ok)
	}
}
