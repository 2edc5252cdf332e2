package tests

import (
	"math"
	"math/rand"
	"strings"
	"sync"
	"testing"

	"loop.example/peoplesnumerals/impl"
)

// knownRanked has numbers with their ranked texts, written by hand.
func knownRanked() map[int]string {
	return map[int]string{
		0: "o", 1: "1", 9: "9", 10: "1s", 11: "1s1", 19: "1s9", 20: "2s", 99: "9s9", 100: "1b", 101: "1bo1", 110: "1b1s", 111: "1b1s1", 203: "2bo3", 999: "9b9s9",
		1000: "1q", 1001: "1qo1", 1010: "1qo1s", 1011: "1qo1s1", 1100: "1q1b", 1101: "1q1bo1", 1110: "1q1b1s", 1111: "1q1b1s1", 1203: "1q2bo3", 2000: "2q", 9999: "9q9b9s9",
		10000: "1w", 10001: "1wo1", 10010: "1wo1s", 10100: "1wo1b", 10203: "1wo2bo3", 10999: "1wo9b9s9", 11000: "1w1q", 11001: "1w1qo1", 12345: "1w2q3b4s5", 90000: "9w",
		100000: "1sw", 100001: "1swo1", 100010: "1swo1s", 101000: "1sw1q", 110000: "1s1w", 1000000: "1bw", 1001000: "1bw1q", 1010000: "1bo1w", 1010101: "1bo1wo1bo1",
		10000000: "1qw", 10000001: "1qwo1", 10001000: "1qw1q", 10010000: "1qo1w", 10010001: "1qo1wo1", 10010101: "1qo1wo1bo1", 10011001: "1qo1w1qo1", 10100101: "1qo1swo1bo1",
		12345678: "1q2b3s4w5q6b7s8", 90000009: "9qwo9", 99990000: "9q9b9s9w", 99990999: "9q9b9s9wo9b9s9", 99999998: "9q9b9s9w9q9b9s8", 99999999: "9q9b9s9w9q9b9s9",
	}
}

// eachRanked calls visit with all numbers up to 20000 and many greater ones.
func eachRanked(visit func(int)) {
	for n := 0; n <= 20000; n++ {
		visit(n)
	}
	for n := 1; n <= 9999; n++ {
		visit(10000 * n)
		visit(10000*n + n)
		visit(99990000 + n)
	}
	for _, n := range rankedNumbers() {
		visit(n)
	}
}

// Promise 37, and what RankOf returns.

func TestRankOf(t *testing.T) {
	for n, want := range knownRanked() {
		got, ok := impl.RankOf(n)
		wantText(t, call("RankOf", n), got, ok, want)
	}
	eachRanked(func(n int) {
		got, ok := impl.RankOf(n)
		wantText(t, call("RankOf", n), got, ok, plainRanked(n))
	})
}

func TestRankOutside(t *testing.T) {
	numbers := outsideRanked()
	for n := 1; n <= 2100; n++ {
		numbers = append(numbers, -n, greatestRanked+n)
	}
	for _, n := range numbers {
		got, ok := impl.RankOf(n)
		wantNoText(t, call("RankOf", n), got, ok)
		short, ok := impl.RankShort(n)
		wantNoText(t, call("RankShort", n), short, ok)
		noughts, ok := impl.RankNoughts(n)
		wantNoNumber(t, call("RankNoughts", n), noughts, ok)
		long, ok := impl.RankLong(n)
		wantNoNumber(t, call("RankLong", n), long, ok)
	}
}

func TestPromise37(t *testing.T) {
	eachRanked(func(n int) {
		text, ok := impl.RankOf(n)
		if !ok || len(text) > 16 {
			t.Errorf("RankOf(%d): %q, %v", n, text, ok)
		}
		got, ok := impl.RankRead(text)
		wantNumber(t, quoted("RankRead", text), got, ok, n)
	})
}

// Promise 38, and what RankRead returns.

func checkRankRead(t *testing.T, parts map[string]int, s string) {
	t.Helper()
	got, ok := impl.RankRead(s)
	if want := plainRankRead(parts, s); want >= 0 {
		wantNumber(t, quoted("RankRead", s), got, ok, want)
	} else {
		wantNoNumber(t, quoted("RankRead", s), got, ok)
	}
}

func TestRankRead(t *testing.T) {
	for want, s := range knownRanked() {
		got, ok := impl.RankRead(s)
		wantNumber(t, quoted("RankRead", s), got, ok, want)
	}
	for _, s := range noRanked() {
		got, ok := impl.RankRead(s)
		wantNoNumber(t, quoted("RankRead", s), got, ok)
	}
}

// All texts of up to four signs, all longer ones of few signs, and all of one or two bytes.
func TestRankReadAll(t *testing.T) {
	parts := rankedParts()
	for length := range 5 {
		eachTextOf(rankedSigns, length, func(s string) { checkRankRead(t, parts, s) })
	}
	for length := 5; length <= 7; length++ {
		eachTextOf("2qbsow", length, func(s string) { checkRankRead(t, parts, s) })
	}
	for a := range 256 {
		checkRankRead(t, parts, string([]byte{byte(a)}))
		for b := range 256 {
			checkRankRead(t, parts, string([]byte{byte(a), byte(b)}))
		}
	}
}

// Ten thousands and what is left behind them, in all ways of putting texts of parts together.
func TestRankReadParts(t *testing.T) {
	parts := rankedParts()
	var texts []string
	for _, n := range rankedNumbers() {
		if n < 10000 {
			texts = append(texts, plainPart(n))
		}
	}
	for _, above := range texts {
		for _, left := range texts {
			for _, between := range []string{"", "o", "w", "wo", "ow", "woo", "owo", "ww", "0"} {
				checkRankRead(t, parts, above+between+left)
			}
		}
	}
}

// Ranked texts with one sign more, less or changed, or with two exchanged.
func TestRankReadNear(t *testing.T) {
	parts := rankedParts()
	numbers := rankedNumbers()
	for k := 0; k < len(numbers); k += 5 {
		s := plainRanked(numbers[k])
		for i := range len(s) + 1 {
			for _, sign := range []string{"0", "1", "9", "q", "b", "s", "o", "w", " ", "\x00", "\xff", "/", ":", "Q"} {
				checkRankRead(t, parts, s[:i]+sign+s[i:])
				if i < len(s) {
					checkRankRead(t, parts, s[:i]+sign+s[i+1:])
				}
			}
			checkRankRead(t, parts, s[:i])
			checkRankRead(t, parts, s[i:])
			if i < len(s) {
				checkRankRead(t, parts, s[:i]+s[i+1:])
				checkRankRead(t, parts, s[:i]+s[i:i+1]+s[i:])
			}
			if i+1 < len(s) {
				checkRankRead(t, parts, s[:i]+s[i+1:i+2]+s[i:i+1]+s[i+2:])
			}
		}
	}
}

// Each byte alone, at both ends of a ranked text and inside it.
func TestRankReadBytes(t *testing.T) {
	parts := rankedParts()
	for b := range 256 {
		sign := string([]byte{byte(b)})
		for _, text := range []string{"1", "o", "1s", "1bo1", "1qo1s", "1w", "1wo1", "3q2b1s4w5q6b7s8"} {
			for i := range len(text) + 1 {
				checkRankRead(t, parts, text[:i]+sign+text[i:])
				if i < len(text) {
					checkRankRead(t, parts, text[:i]+sign+text[i+1:])
				}
			}
		}
	}
}

func TestPromise38(t *testing.T) {
	texts := noRanked()
	for length := range 5 {
		eachTextOf(rankedSigns, length, func(s string) { texts = append(texts, s) })
	}
	for length := 5; length <= 6; length++ {
		eachTextOf("2qbsow", length, func(s string) { texts = append(texts, s) })
	}
	eachRanked(func(n int) { texts = append(texts, plainRanked(n)) })
	read := 0
	for _, s := range texts {
		n, ok := impl.RankRead(s)
		if !ok {
			continue
		}
		read++
		got, ok := impl.RankOf(n)
		wantText(t, call("RankOf", n), got, ok, s)
	}
	if read < 20000 {
		t.Errorf("RankRead succeeds for %d texts only", read)
	}
}

// Promise 39, and what RankNoughts returns.

func TestRankNoughts(t *testing.T) {
	for n, want := range map[int]int{
		0: 1, 1: 0, 9: 0, 10: 0, 11: 0, 99: 0, 100: 0, 101: 1, 110: 0, 999: 0, 1000: 0, 1001: 1, 1010: 1, 1100: 0, 1101: 1, 1111: 0, 9999: 0,
		10000: 0, 10001: 1, 10010: 1, 10100: 1, 10101: 2, 10203: 2, 11000: 0, 11001: 1, 101000: 0, 100001: 1, 1010000: 1, 1010101: 3, 10000000: 0, 10010101: 3, 10011001: 2, 10100101: 3, 99990000: 0, 99999999: 0, 90000009: 1,
	} {
		got, ok := impl.RankNoughts(n)
		wantNumber(t, call("RankNoughts", n), got, ok, want)
	}
	eachRanked(func(n int) {
		got, ok := impl.RankNoughts(n)
		wantNumber(t, call("RankNoughts", n), got, ok, strings.Count(plainRanked(n), "o"))
	})
}

func TestPromise39(t *testing.T) {
	got, ok := impl.RankNoughts(0)
	wantNumber(t, call("RankNoughts", 0), got, ok, 1)
	eachRanked(func(n int) {
		if noughts, ok := impl.RankNoughts(n); !ok || noughts < 0 || noughts > 3 {
			t.Errorf("RankNoughts(%d): %d, %v", n, noughts, ok)
		}
	})
	for n := 1000; n <= 9999; n++ {
		noughts, ok := impl.RankNoughts(n)
		if !ok {
			t.Errorf("RankNoughts(%d) fails", n)
		}
		got, ok := impl.RankNoughts(10000 * n)
		wantNumber(t, call("RankNoughts", 10000*n), got, ok, noughts)
	}
}

// Promise 40, and what RankShort returns.

func TestRankShort(t *testing.T) {
	for n, want := range map[int]string{
		0: "o", 1: "1", 2: "2", 9: "9", 10: "s", 11: "s1", 12: "s2", 13: "s3", 14: "s4", 15: "s5", 16: "s6", 17: "s7", 18: "s8", 19: "s9", 20: "2s", 21: "2s1", 91: "9s1",
		100: "1b", 101: "1bo1", 110: "1b1s", 111: "1b1s1", 210: "2b1s", 1000: "1q", 1010: "1qo1s", 1011: "1qo1s1", 1110: "1q1b1s", 10000: "1w", 10010: "1wo1s", 10011: "1wo1s1", 11010: "1w1qo1s",
		100000: "sw", 100010: "swo1s", 101010: "sw1qo1s", 110000: "s1w", 150015: "s5wo1s5", 190000: "s9w", 200000: "2sw", 1000000: "1bw", 1100000: "1b1sw", 10100000: "1qo1sw", 199999: "s9w9q9b9s9", 99999999: "9q9b9s9w9q9b9s9",
	} {
		got, ok := impl.RankShort(n)
		wantText(t, call("RankShort", n), got, ok, want)
	}
	eachRanked(func(n int) {
		want := plainRanked(n)
		if n/10 == 1 || n/100000 == 1 {
			want = want[1:]
		}
		got, ok := impl.RankShort(n)
		wantText(t, call("RankShort", n), got, ok, want)
	})
	for n := 90000; n <= 210000; n += 7 {
		want := plainRanked(n)
		if n >= 100000 && n < 200000 {
			want = want[1:]
		}
		got, ok := impl.RankShort(n)
		wantText(t, call("RankShort", n), got, ok, want)
	}
}

func TestPromise40(t *testing.T) {
	without := 0
	eachRanked(func(n int) {
		text, ok := impl.RankOf(n)
		if !ok {
			t.Errorf("RankOf(%d) fails", n)
		}
		short, ok := impl.RankShort(n)
		if !ok || short != text && (!strings.HasPrefix(short, "s") || "1"+short != text) {
			t.Errorf("RankShort(%d): %q, %v; RankOf: %q", n, short, ok, text)
		}
		if short != text {
			without++
		}
	})
	if without == 0 {
		t.Error("RankShort leaves out nothing")
	}
}

// Promise 41, and what RankLong returns.

func TestRankLong(t *testing.T) {
	for n, want := range map[int]int{
		0: 0, 1: 0, 9: 0, 10: 10, 11: 11, 12: 11, 99: 11, 100: 11, 101: 101, 110: 101, 111: 111, 999: 111, 1000: 111, 1001: 111, 1010: 111, 1011: 1011, 1100: 1011, 1110: 1011, 1111: 1111, 1112: 1111, 1999: 1111, 2000: 1111,
	} {
		got, ok := impl.RankLong(n)
		wantNumber(t, call("RankLong", n), got, ok, want)
	}
	long := 0
	for n := 0; n <= greatestLong; n++ {
		if len(plainRanked(n)) > len(plainRanked(long)) {
			long = n
		}
		got, ok := impl.RankLong(n)
		wantNumber(t, call("RankLong", n), got, ok, long)
	}
}

func TestRankLongInvalid(t *testing.T) {
	for _, n := range []int{math.MinInt, -2001, -2000, -10, -1, 2001, 2002, 3000, 9999, 10000, 20000, 99999999, 100000000, 1 << 32, 1<<32 + 1, math.MaxInt} {
		got, ok := impl.RankLong(n)
		wantNoNumber(t, call("RankLong", n), got, ok)
	}
}

func TestPromise41(t *testing.T) {
	lengths := make([]int, greatestLong+1)
	for n := range lengths {
		text, _ := impl.RankOf(n)
		lengths[n] = len(text)
	}
	for n := range lengths {
		long, ok := impl.RankLong(n)
		if !ok || long < 0 || long > n {
			t.Fatalf("RankLong(%d): %d, %v", n, long, ok)
		}
		for i, length := range lengths[:n+1] {
			if length > lengths[long] || i < long && length == lengths[long] {
				t.Errorf("RankLong(%d) is %d, with %d signs; %d has %d", n, long, lengths[long], i, length)
			}
		}
	}
}

// Promise 42, and what RankSum returns.

func checkRankSum(t *testing.T, m, n int) {
	t.Helper()
	s, u := plainRanked(m), plainRanked(n)
	got, ok := impl.RankSum(s, u)
	if m+n <= greatestRanked {
		wantText(t, quoted("RankSum", s, u), got, ok, plainRanked(m+n))
	} else {
		wantNoText(t, quoted("RankSum", s, u), got, ok)
	}
}

func TestRankSum(t *testing.T) {
	for _, known := range []struct{ s, t, want string }{
		{"o", "o", "o"}, {"o", "1", "1"}, {"1", "o", "1"}, {"1", "1", "2"}, {"1", "9", "1s"}, {"9s9", "1", "1b"}, {"9s9", "2", "1bo1"}, {"9b9s9", "1", "1q"}, {"9q9b9s9", "1", "1w"}, {"9q9b9s9", "2", "1wo1"}, {"9q9b9s9", "9q9b9s9", "1w9q9b9s8"},
		{"1q", "1b", "1q1b"}, {"1q", "1", "1qo1"}, {"1w", "1q", "1w1q"}, {"1w", "1b", "1wo1b"}, {"9w9q9b9s9", "1", "1sw"}, {"9q9b9s9w9q9b9s9", "o", "9q9b9s9w9q9b9s9"}, {"9q9b9s9w9q9b9s8", "1", "9q9b9s9w9q9b9s9"},
		{"9q9b9s9w", "9q9b9s9", "9q9b9s9w9q9b9s9"}, {"5qw", "4q9b9s9w9q9b9s9", "9q9b9s9w9q9b9s9"}, {"1q2b3s4w5q6b7s8", "8q7b6s5w4q3b2s1", "9q9b9s9w9q9b9s9"},
	} {
		got, ok := impl.RankSum(known.s, known.t)
		wantText(t, quoted("RankSum", known.s, known.t), got, ok, known.want)
	}
	for _, above := range [][2]string{{"9q9b9s9w9q9b9s9", "1"}, {"9q9b9s9w9q9b9s9", "9q9b9s9w9q9b9s9"}, {"5qw", "5qw"}, {"9q9b9s9w", "1w"}, {"9q9b9s9wo1", "9q9b9s9"}, {"9q9b9s9w9q9b9s8", "2"}, {"1q2b3s4w5q6b7s8", "8q7b6s5w4q3b2s2"}} {
		got, ok := impl.RankSum(above[0], above[1])
		wantNoText(t, quoted("RankSum", above[0], above[1]), got, ok)
	}
	for k, m := range rankedNumbers() {
		checkRankSum(t, m, 0)
		checkRankSum(t, 0, m)
		checkRankSum(t, m, greatestRanked-m)
		checkRankSum(t, greatestRanked-m, m)
		if m > 0 {
			checkRankSum(t, m, greatestRanked-m+1)
			checkRankSum(t, greatestRanked-m+1, m)
		}
		checkRankSum(t, m, k)
		checkRankSum(t, m, greatestRanked)
	}
}

func TestRankSumInvalid(t *testing.T) {
	for _, text := range append(noRanked(), "1swo1so", "s9") {
		for _, s := range []string{"o", "1", "1qo1", "9q9b9s9w9q9b9s9"} {
			got, ok := impl.RankSum(text, s)
			wantNoText(t, quoted("RankSum", text, s), got, ok)
			got, ok = impl.RankSum(s, text)
			wantNoText(t, quoted("RankSum", s, text), got, ok)
		}
		got, ok := impl.RankSum(text, text)
		wantNoText(t, quoted("RankSum", text, text), got, ok)
	}
}

func TestPromise42(t *testing.T) {
	chance := rand.New(rand.NewSource(42))
	for _, m := range rankedNumbers() {
		s, u := plainRanked(m), plainRanked(chance.Intn(min(greatestRanked+1, 100010000-m)))
		one, ok := impl.RankSum(s, u)
		other, same := impl.RankSum(u, s)
		if ok != same || one != other {
			t.Errorf("RankSum(%q, %q) is %q, %v, exchanged %q, %v", s, u, one, ok, other, same)
		}
		alone, ok := impl.RankSum(s, "o")
		wantText(t, quoted("RankSum", s, "o"), alone, ok, s)
		alone, ok = impl.RankSum("o", s)
		wantText(t, quoted("RankSum", "o", s), alone, ok, s)
	}
}

// The number 0, for all functions.
func TestRankZero(t *testing.T) {
	text, ok := impl.RankOf(0)
	wantText(t, call("RankOf", 0), text, ok, "o")
	n, ok := impl.RankRead("o")
	wantNumber(t, quoted("RankRead", "o"), n, ok, 0)
	noughts, ok := impl.RankNoughts(0)
	wantNumber(t, call("RankNoughts", 0), noughts, ok, 1)
	short, ok := impl.RankShort(0)
	wantText(t, call("RankShort", 0), short, ok, "o")
	long, ok := impl.RankLong(0)
	wantNumber(t, call("RankLong", 0), long, ok, 0)
	sum, ok := impl.RankSum("o", "o")
	wantText(t, quoted("RankSum", "o", "o"), sum, ok, "o")
}

// The general rules: no state between calls, also if they are made at the same time.

func TestRankNoState(t *testing.T) {
	var calls sync.WaitGroup
	numbers := rankedNumbers()
	for worker := range 4 {
		calls.Go(func() {
			for i := worker; i < len(numbers); i += 31 {
				n := numbers[i]
				text, _ := impl.RankOf(n)
				number, _ := impl.RankRead(text)
				impl.RankOf(greatestRanked - n)
				impl.RankOf(math.MinInt)
				impl.RankRead(text + "w")
				impl.RankRead("1qo")
				again, _ := impl.RankOf(n)
				numberAgain, _ := impl.RankRead(again)
				if text != again || number != numberAgain {
					t.Errorf("%d: %q and %q, %d and %d", n, text, again, number, numberAgain)
				}
			}
		})
	}
	calls.Wait()
}
