package tests

import (
	"fmt"
	"math"
	"strings"
	"sync"
	"testing"

	"loop.example/peoplesnumerals/impl"
)

// Promise 1, and what RomanOf returns.

func TestRomanOf(t *testing.T) {
	known := map[int]string{
		1: "I", 2: "II", 3: "III", 4: "IV", 5: "V", 6: "VI", 7: "VII", 8: "VIII", 9: "IX", 10: "X",
		14: "XIV", 19: "XIX", 40: "XL", 44: "XLIV", 49: "XLIX", 50: "L", 90: "XC", 99: "XCIX", 100: "C",
		400: "CD", 444: "CDXLIV", 499: "CDXCIX", 500: "D", 900: "CM", 999: "CMXCIX", 1000: "M",
		1888: "MDCCCLXXXVIII", 1990: "MCMXC", 1994: "MCMXCIV", 3000: "MMM", 3888: "MMMDCCCLXXXVIII", 3999: "MMMCMXCIX",
	}
	for n, want := range known {
		got, ok := impl.RomanOf(n)
		wantText(t, fmt.Sprintf("RomanOf(%d)", n), got, ok, want)
	}
	for n := 1; n <= impl.RomanMax; n++ {
		got, ok := impl.RomanOf(n)
		wantText(t, fmt.Sprintf("RomanOf(%d)", n), got, ok, plainStrict(n))
	}
	for _, n := range outsideRoman() {
		got, ok := impl.RomanOf(n)
		wantNoText(t, fmt.Sprintf("RomanOf(%d)", n), got, ok)
	}
}

func TestRomanMax(t *testing.T) {
	if impl.RomanMax != 3999 {
		t.Errorf("RomanMax is %d", impl.RomanMax)
	}
}

func TestPromise1(t *testing.T) {
	for n := 1; n <= impl.RomanMax; n++ {
		s, _ := impl.RomanOf(n)
		got, ok := impl.RomanLoose(s)
		wantNumber(t, fmt.Sprintf("RomanLoose(%q)", s), got, ok, n)
		if !impl.RomanStrict(s) {
			t.Errorf("RomanStrict(%q) does not hold", s)
		}
		if len(s) > 15 {
			t.Errorf("RomanOf(%d) has %d letters", n, len(s))
		}
	}
}

// Promise 2, and what RomanLoose returns.

func TestRomanLoose(t *testing.T) {
	known := map[string]int{
		"I": 1, "V": 5, "X": 10, "L": 50, "C": 100, "D": 500, "M": 1000,
		"IIX": 10, "IVX": 4, "IXV": 14, "IIII": 4, "VX": 5, "IM": 999, "IMM": 1999, "VV": 10, "XIIX": 20,
		"MIM": 1999, "IVXLCDM": 334, "MDCLXVI": 1666, "IIIIIX": 13, "XXC": 100, "LXC": 140,
		"MMMDCCCLXXXVIII": 3888, "MMMDCCCLXXXVIIII": 3889,
		"IIIIIIIIIIIIIII": 15, "IIIIIIIIIIIIIIII": 16, "IIIIIIIIIIIIIIIM": 1013,
		"MMMMMMMMMMMMMMM": 15000, "MMMMMMMMMMMMMMMM": 16000, "IMIMIMIMIMIMIMIM": 7992,
	}
	for s, want := range known {
		got, ok := impl.RomanLoose(s)
		wantNumber(t, fmt.Sprintf("RomanLoose(%q)", s), got, ok, want)
	}
	for letters := 1; letters <= 6; letters++ {
		eachText(letters, func(s string) {
			got, ok := impl.RomanLoose(s)
			wantNumber(t, fmt.Sprintf("RomanLoose(%q)", s), got, ok, plainLoose(s))
		})
	}
	for _, s := range brokenTexts() {
		got, ok := impl.RomanLoose(s)
		wantNoNumber(t, fmt.Sprintf("RomanLoose(%.20q)", s), got, ok)
	}
}

// A byte is a letter exactly if it is one of the seven, at each place of a text.
func TestRomanLooseBytes(t *testing.T) {
	for b := range 256 {
		for _, s := range []string{string([]byte{byte(b)}), string([]byte{byte(b), 'X'}), string([]byte{'X', byte(b)}), string([]byte{'I', byte(b), 'C'})} {
			got, ok := impl.RomanLoose(s)
			if strings.IndexByte(textOrder, byte(b)) < 0 {
				wantNoNumber(t, fmt.Sprintf("RomanLoose(%q)", s), got, ok)
			} else {
				wantNumber(t, fmt.Sprintf("RomanLoose(%q)", s), got, ok, plainLoose(s))
			}
		}
	}
}

// longTexts has texts of so many letters, of many shapes.
func longTexts(letters int) []string {
	var texts []string
	eachText(4, func(s string) {
		texts = append(texts, strings.Repeat(s, 5)[:letters])
	})
	for n := 1; n <= impl.RomanMax; n += 7 {
		texts = append(texts, (plainStrict(n) + strings.Repeat(plainStrict(impl.RomanMax-n+1), 16))[:letters])
	}
	return texts
}

func TestRomanLooseLong(t *testing.T) {
	for letters := 13; letters <= 16; letters++ {
		for _, s := range longTexts(letters) {
			got, ok := impl.RomanLoose(s)
			wantNumber(t, fmt.Sprintf("RomanLoose(%q)", s), got, ok, plainLoose(s))
		}
	}
	for letters := 17; letters <= 20; letters++ {
		for _, s := range longTexts(letters) {
			got, ok := impl.RomanLoose(s)
			wantNoNumber(t, fmt.Sprintf("RomanLoose(%q)", s), got, ok)
		}
	}
}

func checkPromise2(t *testing.T, s string) {
	t.Helper()
	n, ok := impl.RomanLoose(s)
	if !ok || n < 1 || n > 1000*len(s) {
		t.Errorf("RomanLoose(%q): %d, %v", s, n, ok)
	}
	more, ok := impl.RomanLoose("M" + s)
	if len(s) <= 15 {
		wantNumber(t, fmt.Sprintf("RomanLoose(%q)", "M"+s), more, ok, n+1000)
	} else {
		wantNoNumber(t, fmt.Sprintf("RomanLoose(%q)", "M"+s), more, ok)
	}
}

func TestPromise2(t *testing.T) {
	for letters := 1; letters <= 5; letters++ {
		eachText(letters, func(s string) { checkPromise2(t, s) })
	}
	for letters := 14; letters <= 16; letters++ {
		for _, s := range longTexts(letters) {
			checkPromise2(t, s)
		}
	}
}

// Promise 3, and what RomanStrict returns.

func strictTexts() map[string]int {
	texts := map[string]int{}
	for n := 1; n <= impl.RomanMax; n++ {
		texts[plainStrict(n)] = n
	}
	return texts
}

func checkStrict(t *testing.T, strict map[string]int, s string) {
	t.Helper()
	if _, want := strict[s]; impl.RomanStrict(s) != want {
		t.Errorf("RomanStrict(%q) is %v", s, !want)
	}
}

func TestRomanStrict(t *testing.T) {
	for _, s := range []string{"I", "IV", "IX", "XL", "XC", "CD", "CM", "MMM", "MCMXCIV", "MMMDCCCLXXXVIII", "MMMCMXCIX"} {
		if !impl.RomanStrict(s) {
			t.Errorf("RomanStrict(%q) does not hold", s)
		}
	}
	for _, s := range []string{"IIII", "VV", "VIV", "IIX", "IXI", "IC", "IM", "XM", "VX", "LC", "DM", "IVI", "XIIX", "MMMM", "MMMMI", "MMMDCCCLXXXVIIII", "MMMMMMMMMMMMMMMM", "IMM", "iv"} {
		if impl.RomanStrict(s) {
			t.Errorf("RomanStrict(%q) holds", s)
		}
	}
	for _, s := range brokenTexts() {
		if impl.RomanStrict(s) {
			t.Errorf("RomanStrict(%.20q) holds", s)
		}
	}
	strict := strictTexts()
	for letters := 1; letters <= 6; letters++ {
		eachText(letters, func(s string) { checkStrict(t, strict, s) })
	}
	for letters := 15; letters <= 17; letters++ {
		for _, s := range longTexts(letters) {
			checkStrict(t, strict, s)
		}
	}
}

// Texts that differ little from strict ones.
func TestRomanStrictNear(t *testing.T) {
	strict := strictTexts()
	for s := range strict {
		checkStrict(t, strict, s)
		checkStrict(t, strict, s+" ")
		checkStrict(t, strict, strings.ToLower(s))
		for i := range len(s) {
			checkStrict(t, strict, s[:i]+s[i+1:])
			checkStrict(t, strict, s[:i]+s[i:i+1]+s[i:])
			for j := range len(textOrder) {
				checkStrict(t, strict, s[:i]+textOrder[j:j+1]+s[i+1:])
			}
		}
	}
}

func TestPromise3(t *testing.T) {
	held := 0
	for letters := 1; letters <= 6; letters++ {
		eachText(letters, func(s string) {
			if !impl.RomanStrict(s) {
				return
			}
			held++
			value, ok := impl.RomanLoose(s)
			if !ok {
				t.Errorf("RomanLoose(%q) fails", s)
			}
			got, ok := impl.RomanOf(value)
			wantText(t, fmt.Sprintf("RomanOf(%d)", value), got, ok, s)
		})
	}
	if held == 0 {
		t.Error("RomanStrict holds for no text of up to six letters")
	}
}

// Promise 4, and what RomanShort returns.

func TestRomanShort(t *testing.T) {
	known := map[int]string{
		1: "I", 2: "II", 3: "III", 4: "IV", 5: "V", 6: "VI", 8: "IVIV", 9: "IX", 10: "X",
		99: "IC", 499: "ID", 999: "IM", 1000: "M", 1999: "IMM", 2000: "MM", 3000: "MMM", 3999: "IMMMM",
	}
	for n, want := range known {
		got, ok := impl.RomanShort(n)
		wantText(t, fmt.Sprintf("RomanShort(%d)", n), got, ok, want)
	}
	best := plainShort()
	for n := 1; n <= impl.RomanMax; n++ {
		got, ok := impl.RomanShort(n)
		wantText(t, fmt.Sprintf("RomanShort(%d)", n), got, ok, best[n])
	}
	for _, n := range outsideRoman() {
		got, ok := impl.RomanShort(n)
		wantNoText(t, fmt.Sprintf("RomanShort(%d)", n), got, ok)
	}
}

// All texts of up to six letters, tried one by one in their order.
func TestRomanShortTried(t *testing.T) {
	first := map[int]string{}
	for letters := 1; letters <= 6; letters++ {
		eachText(letters, func(s string) {
			if n := plainLoose(s); first[n] == "" {
				first[n] = s
			}
		})
	}
	for n := 1; n <= impl.RomanMax; n++ {
		got, ok := impl.RomanShort(n)
		if first[n] != "" {
			wantText(t, fmt.Sprintf("RomanShort(%d)", n), got, ok, first[n])
		} else if !ok || len(got) <= 6 {
			t.Errorf("RomanShort(%d): %q, %v; expected more than six letters", n, got, ok)
		}
	}
}

func TestPromise4(t *testing.T) {
	for n := 1; n <= impl.RomanMax; n++ {
		short, ok := impl.RomanShort(n)
		if !ok {
			t.Errorf("RomanShort(%d) fails", n)
		}
		value, ok := impl.RomanLoose(short)
		wantNumber(t, fmt.Sprintf("RomanLoose(%q)", short), value, ok, n)
		strict, _ := impl.RomanOf(n)
		if len(short) > len(strict) || len(short) == len(strict) && short > strict {
			t.Errorf("RomanShort(%d) is %q, RomanOf is %q", n, short, strict)
		}
	}
}

// Promise 5, and what RomanAdd returns.

func checkAdd(t *testing.T, a, b int) {
	t.Helper()
	s, v := plainStrict(a), plainStrict(b)
	what := fmt.Sprintf("RomanAdd(%q, %q)", s, v)
	got, ok := impl.RomanAdd(s, v)
	if a+b > impl.RomanMax {
		wantNoText(t, what, got, ok)
	} else {
		wantText(t, what, got, ok, plainStrict(a+b))
	}
}

func TestRomanAdd(t *testing.T) {
	got, ok := impl.RomanAdd("IX", "XL")
	wantText(t, "RomanAdd of 9 and 40", got, ok, "XLIX")
	got, ok = impl.RomanAdd("MMMCMXCVIII", "I")
	wantText(t, "RomanAdd of 3998 and 1", got, ok, "MMMCMXCIX")
	got, ok = impl.RomanAdd("MMMCMXCIX", "I")
	wantNoText(t, "RomanAdd of 3999 and 1", got, ok)
	got, ok = impl.RomanAdd("MM", "MM")
	wantNoText(t, "RomanAdd of 2000 and 2000", got, ok)
	for a := 1; a <= impl.RomanMax; a += 13 {
		for b := 1; b <= impl.RomanMax; b += 37 {
			checkAdd(t, a, b)
		}
	}
	for a := 1; a < impl.RomanMax; a++ {
		checkAdd(t, a, impl.RomanMax-a)
		checkAdd(t, a, impl.RomanMax+1-a)
		checkAdd(t, a, impl.RomanMax)
	}
}

func TestRomanAddNotStrict(t *testing.T) {
	loose := append(brokenTexts(), "IIII", "VV", "IIX", "IVX", "IC", "IM", "MMMM", "MMMMMMMMMMMMMMM", "MMMMMMMMMMMMMMMM", "MMMDCCCLXXXVIIII")
	for _, s := range loose {
		for _, strict := range []string{"I", "X", "MMMCMXCIX", s} {
			got, ok := impl.RomanAdd(s, strict)
			wantNoText(t, fmt.Sprintf("RomanAdd(%.20q, %.20q)", s, strict), got, ok)
			got, ok = impl.RomanAdd(strict, s)
			wantNoText(t, fmt.Sprintf("RomanAdd(%.20q, %.20q)", strict, s), got, ok)
		}
	}
}

func TestPromise5(t *testing.T) {
	for a := 1; a <= impl.RomanMax; a += 19 {
		for b := 1; b <= impl.RomanMax; b += 23 {
			s, v := plainStrict(a), plainStrict(b)
			one, ok := impl.RomanAdd(s, v)
			other, same := impl.RomanAdd(v, s)
			if one != other || ok != same {
				t.Errorf("RomanAdd(%q, %q) is %q, exchanged %q", s, v, one, other)
			}
			if ok {
				value, ok := impl.RomanLoose(one)
				wantNumber(t, fmt.Sprintf("RomanLoose(%q)", one), value, ok, a+b)
			}
		}
	}
}

// Promise 6, and what RomanPiled returns.

func TestRomanPiled(t *testing.T) {
	known := map[int]string{
		1: "I", 4: "IIII", 5: "V", 9: "VIIII", 14: "XIIII", 40: "XXXX", 49: "XXXXVIIII", 90: "LXXXX", 400: "CCCC", 900: "DCCCC",
		999: "DCCCCLXXXXVIIII", 1000: "M", 1999: "MDCCCCLXXXXVIIII", 2999: "MMDCCCCLXXXXVIIII", 3999: "MMMDCCCCLXXXXVIIII",
	}
	for n, want := range known {
		got, ok := impl.RomanPiled(n)
		wantText(t, fmt.Sprintf("RomanPiled(%d)", n), got, ok, want)
	}
	for n := 1; n <= impl.RomanMax; n++ {
		got, ok := impl.RomanPiled(n)
		wantText(t, fmt.Sprintf("RomanPiled(%d)", n), got, ok, plainPiled(n))
	}
	for _, n := range outsideRoman() {
		got, ok := impl.RomanPiled(n)
		wantNoText(t, fmt.Sprintf("RomanPiled(%d)", n), got, ok)
	}
}

func TestPromise6(t *testing.T) {
	for n := 1; n <= impl.RomanMax; n++ {
		piled, _ := impl.RomanPiled(n)
		value, ok := impl.RomanLoose(piled)
		if len(piled) <= 16 {
			wantNumber(t, fmt.Sprintf("RomanLoose(%q)", piled), value, ok, n)
		} else {
			wantNoNumber(t, fmt.Sprintf("RomanLoose(%q)", piled), value, ok)
		}
		if strict, _ := impl.RomanOf(n); len(piled) < len(strict) {
			t.Errorf("RomanPiled(%d) is %q, RomanOf is %q", n, piled, strict)
		}
	}
}

// Promise 7, and what RomanLongest returns.

func TestRomanLongest(t *testing.T) {
	known := map[int]int{
		1: 1, 2: 2, 3: 3, 4: 3, 7: 3, 8: 8, 17: 8, 18: 18, 20: 18, 27: 18, 28: 28, 38: 38, 87: 38, 88: 88,
		188: 188, 287: 188, 288: 288, 388: 388, 887: 388, 888: 888, 1887: 888, 1888: 1888, 2887: 1888, 2888: 2888, 3887: 2888, 3888: 3888, 3999: 3888,
	}
	for n, want := range known {
		got, ok := impl.RomanLongest(n)
		wantNumber(t, fmt.Sprintf("RomanLongest(%d)", n), got, ok, want)
	}
	for _, n := range outsideRoman() {
		got, ok := impl.RomanLongest(n)
		wantNoNumber(t, fmt.Sprintf("RomanLongest(%d)", n), got, ok)
	}
}

func TestPromise7(t *testing.T) {
	longest := 1
	for n := 1; n <= impl.RomanMax; n++ {
		if len(plainStrict(n)) > len(plainStrict(longest)) {
			longest = n
		}
		got, ok := impl.RomanLongest(n)
		wantNumber(t, fmt.Sprintf("RomanLongest(%d)", n), got, ok, longest)
	}
}

// Promise 8, and what RomanSame returns.

func TestRomanSame(t *testing.T) {
	for _, known := range []struct{ k, n, want int }{
		{1, 1, 1}, {1, 2, 0}, {1, 5, 1}, {1, 10, 1}, {1, 1000, 1}, {1, 999, 0}, {1, 1001, 0}, {1, 5000, 0},
		{2, 4, 1}, {2, 5, 1}, {2, 10, 1}, {2, 2000, 1}, {2, 1999, 0}, {3, 1999, 2}, {5, 5000, 1}, {5, 4999, 0}, {4, 5000, 0},
	} {
		got, ok := impl.RomanSame(known.k, known.n)
		wantNumber(t, fmt.Sprintf("RomanSame(%d, %d)", known.k, known.n), got, ok, known.want)
	}
	for k := 1; k <= 5; k++ {
		counts := map[int]int{}
		eachText(k, func(s string) { counts[plainLoose(s)]++ })
		for n := 1; n <= 5000; n++ {
			got, ok := impl.RomanSame(k, n)
			wantNumber(t, fmt.Sprintf("RomanSame(%d, %d)", k, n), got, ok, counts[n])
		}
	}
}

func TestRomanSameInvalid(t *testing.T) {
	for _, k := range []int{math.MinInt, -5, -1, 0, 6, 7, 16, math.MaxInt} {
		for _, n := range []int{math.MinInt, -1, 0, 1, 10, 5000, 5001, math.MaxInt} {
			got, ok := impl.RomanSame(k, n)
			wantNoNumber(t, fmt.Sprintf("RomanSame(%d, %d)", k, n), got, ok)
		}
	}
	for k := 1; k <= 5; k++ {
		for _, n := range []int{math.MinInt, -5000, -1, 0, 5001, 6000, 1 << 32, math.MaxInt} {
			got, ok := impl.RomanSame(k, n)
			wantNoNumber(t, fmt.Sprintf("RomanSame(%d, %d)", k, n), got, ok)
		}
	}
}

func TestPromise8(t *testing.T) {
	for n := 1; n <= impl.RomanMax; n++ {
		short, _ := impl.RomanShort(n)
		for k := 1; k <= 5; k++ {
			same, ok := impl.RomanSame(k, n)
			if !ok {
				t.Errorf("RomanSame(%d, %d) fails", k, n)
			}
			if same != 0 && len(short) > k || same == 0 && len(short) == k {
				t.Errorf("RomanSame(%d, %d) is %d, RomanShort is %q", k, n, same, short)
			}
		}
	}
}

// The general rules: no state between calls, also if they are made at the same time.

func TestRomanNoState(t *testing.T) {
	var calls sync.WaitGroup
	for worker := range 4 {
		calls.Go(func() {
			for n := 1 + worker; n <= impl.RomanMax; n += 97 {
				short, _ := impl.RomanShort(n)
				same, _ := impl.RomanSame(3, n)
				impl.RomanShort(impl.RomanMax - n + 1)
				impl.RomanSame(4, n)
				shortAgain, _ := impl.RomanShort(n)
				sameAgain, _ := impl.RomanSame(3, n)
				if short != shortAgain || same != sameAgain {
					t.Errorf("%d: %q and %q, %d and %d", n, short, shortAgain, same, sameAgain)
				}
			}
		})
	}
	calls.Wait()
}
