package tests

import (
	"fmt"
	"math"
	"math/rand"
	"strings"
	"sync"
	"testing"

	"loop.example/peoplesnumerals/impl"
)

func quoted(name string, texts ...string) string {
	return fmt.Sprintf("%s%q", name, texts)
}

// Promise 17, and what AlphaOf returns.

func TestAlphaOf(t *testing.T) {
	known := map[int]string{
		1: "a", 5: "e", 9: "i", 10: "j", 11: "ja", 19: "ji", 20: "k", 90: "r", 99: "ri",
		100: "s", 101: "sa", 110: "sj", 111: "sja", 200: "t", 234: "tld", 800: "z", 899: "zri", 900: "*", 901: "*a", 909: "*i", 910: "*j", 990: "*r", 999: "*ri",
		1000: "'a", 1001: "'aa", 1009: "'ai", 1010: "'aj", 1011: "'aja", 1099: "'ari", 1100: "'as", 1101: "'asa", 1110: "'asj", 1111: "'asja", 1234: "'atld",
		1900: "'a*", 1999: "'a*ri", 2000: "'b", 5000: "'e", 5050: "'en", 8888: "'hzqh", 9000: "'i", 9001: "'ia", 9090: "'ir", 9900: "'i*", 9909: "'i*i", 9990: "'i*r", 9998: "'i*rh", 9999: "'i*ri",
	}
	for n, want := range known {
		got, ok := impl.AlphaOf(n)
		wantText(t, call("AlphaOf", n), got, ok, want)
	}
	for n := 1; n <= 9999; n++ {
		got, ok := impl.AlphaOf(n)
		wantText(t, call("AlphaOf", n), got, ok, plainAlpha(n))
	}
	for _, n := range outsideAlpha() {
		got, ok := impl.AlphaOf(n)
		wantNoText(t, call("AlphaOf", n), got, ok)
	}
	for n := -1100; n <= 0; n++ {
		got, ok := impl.AlphaOf(n)
		wantNoText(t, call("AlphaOf", n), got, ok)
		got, ok = impl.AlphaOf(10000 - n)
		wantNoText(t, call("AlphaOf", 10000-n), got, ok)
	}
}

func TestPromise17(t *testing.T) {
	for n := 1; n <= 9999; n++ {
		letters, ok := impl.AlphaOf(n)
		if !ok {
			t.Errorf("AlphaOf(%d) fails", n)
		}
		got, ok := impl.AlphaRead(letters)
		wantNumber(t, quoted("AlphaRead", letters), got, ok, n)
		sum, ok := impl.AlphaSum(letters)
		if n < 1000 {
			wantNumber(t, quoted("AlphaSum", letters), sum, ok, n)
		} else {
			// The sign of thousands is no letter of a word.
			wantNoNumber(t, quoted("AlphaSum", letters), sum, ok)
		}
	}
}

// Promise 18, and what AlphaRead returns.

func checkRead(t *testing.T, numbers map[string]int, s string) {
	t.Helper()
	got, ok := impl.AlphaRead(s)
	if want, known := numbers[s]; known {
		wantNumber(t, quoted("AlphaRead", s), got, ok, want)
	} else {
		wantNoNumber(t, quoted("AlphaRead", s), got, ok)
	}
}

func TestAlphaRead(t *testing.T) {
	known := map[string]int{
		"a": 1, "i": 9, "j": 10, "r": 90, "s": 100, "z": 800, "*": 900, "ja": 11, "sa": 101, "sj": 110, "*ri": 999,
		"'a": 1000, "'i": 9000, "'aa": 1001, "'ii": 9009, "'aj": 1010, "'as": 1100, "'a*": 1900, "'atld": 1234, "'i*ri": 9999,
	}
	for s, want := range known {
		got, ok := impl.AlphaRead(s)
		wantNumber(t, quoted("AlphaRead", s), got, ok, want)
	}
	for _, s := range noAlphas() {
		got, ok := impl.AlphaRead(s)
		wantNoNumber(t, quoted("AlphaRead", s), got, ok)
	}
	numbers := numbersByLetters()
	for s := range numbers {
		checkRead(t, numbers, s)
	}
}

// All texts of up to four letters and signs, and all of one or two bytes.
func TestAlphaReadAll(t *testing.T) {
	numbers := numbersByLetters()
	for length := range 5 {
		eachTextOf("'"+wordOrder, length, func(s string) { checkRead(t, numbers, s) })
	}
	for a := range 256 {
		checkRead(t, numbers, string([]byte{byte(a)}))
		for b := range 256 {
			checkRead(t, numbers, string([]byte{byte(a), byte(b)}))
		}
	}
}

// The letters of numbers with one sign more, less or changed, or with two exchanged.
func TestAlphaReadNear(t *testing.T) {
	numbers := numbersByLetters()
	for n := 1; n <= 9999; n += 3 {
		s := plainAlpha(n)
		for i := range len(s) + 1 {
			for _, sign := range []string{"'", "*", "a", "i", "j", "r", "s", "z", "A", " ", "0", "\x00", "\xff", "{", "`"} {
				checkRead(t, numbers, s[:i]+sign+s[i:])
				if i < len(s) {
					checkRead(t, numbers, s[:i]+sign+s[i+1:])
				}
			}
			if i < len(s) {
				checkRead(t, numbers, s[:i]+s[i+1:])
				checkRead(t, numbers, s[:i]+s[i:i+1]+s[i:])
			}
			if i+1 < len(s) {
				checkRead(t, numbers, s[:i]+s[i+1:i+2]+s[i:i+1]+s[i+2:])
			}
		}
	}
}

func TestPromise18(t *testing.T) {
	texts := append(noAlphas(), noWords()...)
	texts = append(texts, someWords()...)
	for n := 1; n <= 9999; n++ {
		texts = append(texts, plainAlpha(n))
	}
	read := 0
	for _, s := range texts {
		n, ok := impl.AlphaRead(s)
		if !ok {
			continue
		}
		read++
		got, ok := impl.AlphaOf(n)
		wantText(t, call("AlphaOf", n), got, ok, s)
	}
	if read < 9999 {
		t.Errorf("AlphaRead succeeds for %d texts only", read)
	}
}

// Promise 19, and what AlphaSum returns.

func TestAlphaSum(t *testing.T) {
	known := map[string]int{
		"a": 1, "i": 9, "j": 10, "r": 90, "s": 100, "z": 800, "*": 900, "cab": 6, "bac": 6, "aa": 2, "js": 110, "sj": 110, "**": 1800, "*ri": 999, "ir*": 999, "tdl": 234,
		"abcdefghijklmnopqrst": 795, "aaaaaaaaaaaaaaaaaaaa": 20, "zzzzzzzzzzzzzzzzzzzz": 16000, "********************": 18000, "*******************a": 17101, "a*******************": 17101,
	}
	for w, want := range known {
		got, ok := impl.AlphaSum(w)
		wantNumber(t, quoted("AlphaSum", w), got, ok, want)
	}
	for _, w := range someWords() {
		got, ok := impl.AlphaSum(w)
		wantNumber(t, quoted("AlphaSum", w), got, ok, plainWordSum(w))
	}
	for length := 1; length <= 3; length++ {
		eachTextOf(wordOrder, length, func(w string) {
			got, ok := impl.AlphaSum(w)
			wantNumber(t, quoted("AlphaSum", w), got, ok, plainWordSum(w))
		})
	}
	for _, w := range noWords() {
		got, ok := impl.AlphaSum(w)
		wantNoNumber(t, quoted("AlphaSum", w), got, ok)
	}
}

// Each byte alone, at both ends of a word and inside it.
func TestAlphaSumBytes(t *testing.T) {
	for b := range 256 {
		sign := string([]byte{byte(b)})
		for _, w := range []string{sign, sign + "ab", "ab" + sign, "a" + sign + "b", strings.Repeat("a", 19) + sign, strings.Repeat("a", 20) + sign} {
			got, ok := impl.AlphaSum(w)
			if want := plainWordSum(w); want > 0 {
				wantNumber(t, quoted("AlphaSum", w), got, ok, want)
			} else {
				wantNoNumber(t, quoted("AlphaSum", w), got, ok)
			}
		}
	}
}

func TestPromise19(t *testing.T) {
	for _, w := range someWords() {
		if len(w) < 2 {
			continue
		}
		first, ok := impl.AlphaSum(w[:1])
		if !ok {
			t.Errorf("AlphaSum(%q) fails", w[:1])
		}
		others, ok := impl.AlphaSum(w[1:])
		if !ok {
			t.Errorf("AlphaSum(%q) fails", w[1:])
		}
		got, ok := impl.AlphaSum(w)
		wantNumber(t, quoted("AlphaSum", w), got, ok, first+others)
	}
}

// Promise 20, and what AlphaLeast returns.

func TestAlphaLeast(t *testing.T) {
	known := map[int]string{
		1: "a", 9: "i", 10: "j", 11: "aj", 14: "dj", 18: "hj", 19: "ij", 20: "k", 90: "r", 99: "ir", 100: "s", 110: "js", 190: "rs", 200: "t", 800: "z", 899: "irz",
		900: "*", 901: "*a", 905: "*e", 910: "*j", 999: "*ir", 1000: "*s", 1001: "*as", 1700: "*z", 1800: "**", 1801: "**a", 1899: "**ir", 1900: "**s", 1910: "**js", 1999: "**irs", 2000: "**t",
	}
	for n, want := range known {
		got, ok := impl.AlphaLeast(n)
		wantText(t, call("AlphaLeast", n), got, ok, want)
	}
	least := plainLeast()
	for n := 1; n <= 2000; n++ {
		got, ok := impl.AlphaLeast(n)
		wantText(t, call("AlphaLeast", n), got, ok, least[n])
	}
}

func TestAlphaLeastInvalid(t *testing.T) {
	for _, n := range append(outsideAlpha(), 2001, 2002, 2100, 2700, 2900, 3000, 9000, 9999, 17999, 18000, 18001) {
		got, ok := impl.AlphaLeast(n)
		wantNoText(t, call("AlphaLeast", n), got, ok)
	}
	for n := -900; n <= 0; n++ {
		got, ok := impl.AlphaLeast(n)
		wantNoText(t, call("AlphaLeast", n), got, ok)
		got, ok = impl.AlphaLeast(2001 - n)
		wantNoText(t, call("AlphaLeast", 2001-n), got, ok)
	}
}

// All words of up to four letters.
func TestAlphaLeastTried(t *testing.T) {
	first := map[int]string{}
	for length := 1; length <= 4; length++ {
		eachTextOf(wordOrder, length, func(w string) {
			if sum := plainWordSum(w); first[sum] == "" {
				first[sum] = w
			}
		})
	}
	for n := 1; n <= 2000; n++ {
		got, ok := impl.AlphaLeast(n)
		if want := first[n]; want != "" {
			wantText(t, call("AlphaLeast", n), got, ok, want)
		} else if !ok || len(got) < 5 {
			t.Errorf("AlphaLeast(%d): %q, %v; no word of four letters has this sum", n, got, ok)
		}
	}
}

func TestPromise20(t *testing.T) {
	for n := 1; n <= 2000; n++ {
		w, ok := impl.AlphaLeast(n)
		if !ok {
			t.Errorf("AlphaLeast(%d) fails", n)
		}
		sum, ok := impl.AlphaSum(w)
		wantNumber(t, quoted("AlphaSum", w), sum, ok, n)
		if letters, _ := impl.AlphaOf(n); n < 1000 && len(w) > len(letters) {
			t.Errorf("AlphaLeast(%d) is %q, AlphaOf is %q", n, w, letters)
		}
	}
}

// Promise 21, and what AlphaSame holds for.

func TestAlphaSame(t *testing.T) {
	for _, known := range []struct {
		v, w string
		want bool
	}{
		{"a", "a", true}, {"a", "b", false}, {"cab", "abc", true}, {"cab", "f", true}, {"cab", "g", false}, {"j", "ai", true}, {"j", "a", false}, {"s", "rj", true}, {"s", "ri", false},
		{"*", "zs", true}, {"*", "wv", true}, {"*", "zr", false}, {"*", "i", false}, {"**", "**", true}, {"**", "*", false}, {"ij", "ji", true}, {"a", "j", false}, {"aaaaaaaaaaaaaaaaaaaa", "k", true}, {"aaaaaaaaaaaaaaaaaaa", "k", false},
		{"********************", "********************", true}, {"********************", "*******************z", false}, {"*******************z", "z*******************", true},
	} {
		wantHeld(t, quoted("AlphaSame", known.v, known.w), impl.AlphaSame(known.v, known.w), known.want)
		wantHeld(t, quoted("AlphaSame", known.w, known.v), impl.AlphaSame(known.w, known.v), known.want)
	}
	words := someWords()
	for i, v := range words {
		for j := i % 7; j < len(words); j += 7 {
			w := words[j]
			wantHeld(t, quoted("AlphaSame", v, w), impl.AlphaSame(v, w), plainWordSum(v) == plainWordSum(w))
		}
	}
}

func TestAlphaSameInvalid(t *testing.T) {
	for _, text := range noWords() {
		for _, w := range []string{"a", "cab", "*", "aaaaaaaaaaaaaaaaaaaa"} {
			wantHeld(t, quoted("AlphaSame", text, w), impl.AlphaSame(text, w), false)
			wantHeld(t, quoted("AlphaSame", w, text), impl.AlphaSame(w, text), false)
		}
		// Two texts that are no words have no sum, so not the same one.
		wantHeld(t, quoted("AlphaSame", text, text), impl.AlphaSame(text, text), false)
		wantHeld(t, quoted("AlphaSame", text, ""), impl.AlphaSame(text, ""), false)
	}
	wantHeld(t, "AlphaSame of a word and one of 21 letters", impl.AlphaSame("ka", strings.Repeat("a", 21)), false)
	wantHeld(t, "AlphaSame of letters of 1000", impl.AlphaSame("'a", "*s"), false)
}

func TestPromise21(t *testing.T) {
	words := someWords()
	same := 0
	for i, v := range words {
		for j := i % 5; j < len(words); j += 5 {
			w := words[j]
			holds := impl.AlphaSame(v, w)
			wantHeld(t, quoted("AlphaSame", w, v), impl.AlphaSame(w, v), holds)
			if !holds {
				continue
			}
			same++
			m, ok := impl.AlphaNines(v)
			if !ok {
				t.Errorf("AlphaNines(%q) fails", v)
			}
			n, ok := impl.AlphaNines(w)
			wantNumber(t, quoted("AlphaNines", w), n, ok, m)
		}
	}
	if same == 0 {
		t.Error("AlphaSame holds for no words")
	}
}

// Promise 22, and what AlphaNines returns.

func TestAlphaNines(t *testing.T) {
	known := map[string]int{
		"a": 1, "h": 8, "i": 9, "j": 1, "q": 8, "r": 9, "s": 1, "z": 8, "*": 9, "ja": 2, "ji": 1, "ri": 9, "rh": 8, "cab": 6, "ii": 9, "*ri": 9, "sja": 3, "ziq": 7,
		"aaaaaaaaaaaaaaaaaaaa": 2, "********************": 9, "*******************a": 1, "zzzzzzzzzzzzzzzzzzzz": 7,
	}
	for w, want := range known {
		got, ok := impl.AlphaNines(w)
		wantNumber(t, quoted("AlphaNines", w), got, ok, want)
	}
	for _, w := range someWords() {
		got, ok := impl.AlphaNines(w)
		wantNumber(t, quoted("AlphaNines", w), got, ok, plainNines(plainWordSum(w)))
	}
	for _, w := range noWords() {
		got, ok := impl.AlphaNines(w)
		wantNoNumber(t, quoted("AlphaNines", w), got, ok)
	}
}

func TestPromise22(t *testing.T) {
	for _, w := range someWords() {
		nines, ok := impl.AlphaNines(w)
		sum, same := impl.AlphaSum(w)
		if !ok || !same || nines < 1 || nines > 9 || (sum-nines)%9 != 0 {
			t.Errorf("AlphaNines(%q): %d, %v; AlphaSum: %d, %v", w, nines, ok, sum, same)
		}
		got, ok := impl.AlphaNines(w + "i")
		if len(w) < 20 {
			wantNumber(t, quoted("AlphaNines", w+"i"), got, ok, nines)
		} else {
			wantNoNumber(t, quoted("AlphaNines", w+"i"), got, ok)
		}
	}
}

// Promise 23, and what AlphaAdd returns.

func checkAlphaAdd(t *testing.T, m, n int) {
	t.Helper()
	s, u := plainAlpha(m), plainAlpha(n)
	got, ok := impl.AlphaAdd(s, u)
	if m+n <= 9999 {
		wantText(t, quoted("AlphaAdd", s, u), got, ok, plainAlpha(m+n))
	} else {
		wantNoText(t, quoted("AlphaAdd", s, u), got, ok)
	}
}

func TestAlphaAdd(t *testing.T) {
	for _, known := range []struct{ s, t, want string }{
		{"a", "a", "b"}, {"a", "i", "j"}, {"ri", "a", "s"}, {"*", "s", "'a"}, {"*ri", "a", "'a"}, {"*ri", "*ri", "'a*rh"}, {"'a", "a", "'aa"}, {"'a", "'a", "'b"}, {"'atld", "'atld", "'bvoh"},
		{"'a*ri", "a", "'b"}, {"'d*ri", "'e", "'i*ri"}, {"'i*rh", "a", "'i*ri"}, {"'i", "*ri", "'i*ri"}, {"s", "j", "sj"}, {"j", "s", "sj"},
	} {
		got, ok := impl.AlphaAdd(known.s, known.t)
		wantText(t, quoted("AlphaAdd", known.s, known.t), got, ok, known.want)
	}
	for _, above := range [][2]string{{"'i*ri", "a"}, {"a", "'i*ri"}, {"'e", "'e"}, {"'i", "'a"}, {"'i*ri", "'i*ri"}, {"'i*r", "j"}, {"'i*", "s"}} {
		got, ok := impl.AlphaAdd(above[0], above[1])
		wantNoText(t, quoted("AlphaAdd", above[0], above[1]), got, ok)
	}
	for m := 1; m <= 9999; m++ {
		checkAlphaAdd(t, m, 1)
		checkAlphaAdd(t, m, m)
		checkAlphaAdd(t, m, 9999)
		checkAlphaAdd(t, m, 10000-m)
		if m < 9999 {
			checkAlphaAdd(t, m, 9999-m)
		}
		for n := 1 + m%409; n <= 9999; n += 409 {
			checkAlphaAdd(t, m, n)
		}
	}
}

func TestAlphaAddInvalid(t *testing.T) {
	for _, text := range noAlphas() {
		for _, s := range []string{"a", "*ri", "'a", "'i*ri"} {
			got, ok := impl.AlphaAdd(text, s)
			wantNoText(t, quoted("AlphaAdd", text, s), got, ok)
			got, ok = impl.AlphaAdd(s, text)
			wantNoText(t, quoted("AlphaAdd", s, text), got, ok)
		}
		got, ok := impl.AlphaAdd(text, text)
		wantNoText(t, quoted("AlphaAdd", text, text), got, ok)
	}
}

func TestPromise23(t *testing.T) {
	chance := rand.New(rand.NewSource(3))
	for range 20000 {
		m := 1 + chance.Intn(9999)
		s, u := plainAlpha(m), plainAlpha(1+chance.Intn(min(9999, 10100-m)))
		one, ok := impl.AlphaAdd(s, u)
		other, same := impl.AlphaAdd(u, s)
		if ok != same || one != other {
			t.Errorf("AlphaAdd(%q, %q) is %q, %v, exchanged %q, %v", s, u, one, ok, other, same)
		}
		if !ok {
			continue
		}
		a, _ := impl.AlphaRead(s)
		b, _ := impl.AlphaRead(u)
		got, ok := impl.AlphaRead(one)
		wantNumber(t, quoted("AlphaRead", one), got, ok, a+b)
	}
}

// The general rules: no state between calls, also if they are made at the same time.

func TestAlphaNoState(t *testing.T) {
	var calls sync.WaitGroup
	for worker := range 4 {
		calls.Go(func() {
			for n := 1 + worker; n <= 2000; n += 53 {
				least, _ := impl.AlphaLeast(n)
				letters, _ := impl.AlphaOf(n)
				impl.AlphaLeast(2001 - n)
				impl.AlphaOf(10000 - n)
				impl.AlphaLeast(math.MinInt)
				leastAgain, _ := impl.AlphaLeast(n)
				lettersAgain, _ := impl.AlphaOf(n)
				if least != leastAgain || letters != lettersAgain {
					t.Errorf("%d: %q and %q, %q and %q", n, least, leastAgain, letters, lettersAgain)
				}
			}
		})
	}
	calls.Wait()
}
