package tests

import (
	"math"
	"math/rand"
	"strings"
)

// What the document says of ranks, told a second time in the plainest way.

const (
	greatestRanked = 99999999
	greatestLong   = 2000
	// rankedSigns has all signs of ranked texts, and 0, which is none of them.
	rankedSigns = "0123456789qbsow"
)

// plainPart is the ranked text of a number less than 10000 (nothing for 0): all four digits are written,
// and then those that are 0 are taken out, with an o for them between two others.
func plainPart(n int) string {
	text := ""
	for _, rank := range []struct {
		value int
		sign  string
	}{{1000, "q"}, {100, "b"}, {10, "s"}, {1, ""}} {
		if digit := n / rank.value % 10; digit == 0 {
			text += "."
		} else {
			text += string("0123456789"[digit]) + rank.sign
		}
	}
	text = strings.Trim(text, ".")
	for strings.Contains(text, "..") {
		text = strings.ReplaceAll(text, "..", ".")
	}
	return strings.ReplaceAll(text, ".", "o")
}

// plainRanked is the ranked text of a number.
func plainRanked(n int) string {
	tenThousands, left := n/10000, n%10000
	switch {
	case n == 0:
		return "o"
	case tenThousands == 0:
		return plainPart(left)
	case left == 0:
		return plainPart(tenThousands) + "w"
	case left < 1000:
		return plainPart(tenThousands) + "wo" + plainPart(left)
	}
	return plainPart(tenThousands) + "w" + plainPart(left)
}

// rankedParts has the numbers from 1 to 9999 by their ranked texts.
func rankedParts() map[string]int {
	parts := map[string]int{}
	for n := 1; n <= 9999; n++ {
		parts[plainPart(n)] = n
	}
	return parts
}

// plainRankRead is the number with a ranked text; -1 for other texts.
func plainRankRead(parts map[string]int, s string) int {
	if s == "o" {
		return 0
	}
	above, behind, split := strings.Cut(s, "w")
	n, ok := parts[above]
	if !ok {
		return -1
	}
	if !split {
		return n
	}
	if behind == "" {
		return 10000 * n
	}
	lesser, isLess := strings.CutPrefix(behind, "o")
	left, ok := parts[lesser]
	if !ok || isLess != (left < 1000) {
		return -1
	}
	return 10000*n + left
}

// rankedNumbers has numbers with a ranked text, most of them near to where something changes.
func rankedNumbers() []int {
	numbers := []int{
		0, 1, 9, 10, 11, 99, 100, 101, 999, 1000, 1001, 1010, 1100, 9999, 10000, 10001, 10010, 10100, 11000, 10000000, 99990000, greatestRanked - 1, greatestRanked,
		100000, 100001, 100010, 1000000, 1000001, 1001000, 10010001, 10010010, 10101010, 1010101, 10100101, 99999000, 99990999, 90009000, 90000009, 90909090, 9090909, 9999999,
	}
	// Parts with each digit 0, 1 or another one, also ahead of and behind each other.
	var parts []int
	some := []int{0, 1, 7}
	for _, a := range some {
		for _, b := range some {
			for _, c := range some {
				for _, d := range some {
					parts = append(parts, 1000*a+100*b+10*c+d)
				}
			}
		}
	}
	for _, above := range parts {
		for _, left := range parts {
			numbers = append(numbers, 10000*above+left)
		}
	}
	chance := rand.New(rand.NewSource(6))
	for range 5000 {
		numbers = append(numbers, chance.Intn(greatestRanked+1))
	}
	return numbers
}

// outsideRanked has numbers without a ranked text.
func outsideRanked() []int {
	return []int{math.MinInt, math.MinInt + 1, -100000000, -99999999, -10000, -9999, -1000, -11, -10, -9, -2, -1,
		100000000, 100000001, 100000010, 100010000, 110000000, 200000000, 999999999, 1000000000, 9999999999, 1 << 32, 1<<32 + 1, math.MaxInt - 1, math.MaxInt}
}

// noRanked has texts that are no ranked texts.
func noRanked() []string {
	return []string{
		"", " ", "0", "00", "oo", "ooo", "o0", "0o", "o1", "o1s", "o1b", "o1q", "o9", "1o", "1so", "1bo", "1qo", "1q1bo", "1q1b1so", "1s1o", "11", "12", "1s11", "1so1", "1boo1", "1qoo1", "1qoo1s",
		"0s", "0b", "0q", "0w", "1q0b", "1q0b1s", "1q0b0s1", "1b0s1", "1s0", "1q0", "1qo0", "01", "01s", "0s1", "0q1b", "1wo0", "1w0", "1w0q", "1w0001",
		"s", "b", "q", "s5", "sw", "s1", "b1s", "q1", "qb", "1ss", "1bb", "1qq", "1sb", "1bs", "1qb", "1q1bs", "1qs", "1wq", "1ws", "1wos", "1q1bs1",
		"1s1s", "1b1b", "1q1q", "1q1b1b", "1b1s1s", "1q1bo1b", "1qo1q", "1bo1b", "1s1b", "1s1q", "1b1q", "1so1b", "1s1b1q", "11s", "1o1s", "1o1b", "1o1q", "5q4s3b",
		"1b2", "1q2", "1q2s", "1q1b2", "1q2s1", "1qo2b", "1qo2b1s", "1bo2s", "1bo2s1", "1q1bo2s", "1qo2bo1", "1qo1so1", "1bo1o", "1bo1o1", "1qo1o1", "1qo1so", "1q1bo1so",
		"w", "ww", "w1", "w1q", "wo", "wo1", "ow", "owo", "owo1", "ow1q", "1ww", "1w1w", "1wo1w", "1w1qw", "1w1q1w", "1sw1sw", "1w1qo1w", "1www", "1wwo1", "1w1qw1q",
		"1w1", "1w1s", "1w1b", "1w1b1s1", "1w1s1", "1wo", "1wo1q", "1wo1q1b", "1wo1qo1", "1woo", "1woo1", "1wo1bo", "1w1qo", "1wo1so1", "1bow", "1qow1q", "1bow1q", "1so1w", "1sow", "1w1q1", "1w1q1s",
		"1 s", "1s ", " 1s", "1\n", "\n1", "1s\n", "1q\t1b", "1q 1b", "1,1", "1.0", "-1", "+1", "- 1", "1-", "1s-1", "1e3", "1_0", "0x1", "10", "100", "1000", "99999999",
		"S", "1S", "1Q", "1B", "O", "1W", "1WO1", "1wO1", "1QO1", "1k", "1m", "1a", "1p", "1r", "1c", "1t", "1n", "1v", "1x", "1/", "1:", "/", ":", "/s", ":s",
		"\x00", "1\x00", "\x001", "1\x00s", "1s\x00", "1\xffs", "\xff", "1s\xff", "\xb1", "1\xf3", "\xef1", "１", "1ｓ", "ｏ", "о", "1十", "一", "〇", "1bо1", "1ſ", "1wо1", "1º", "²", "1²",
		strings.Repeat("1", 16), strings.Repeat("o", 16), strings.Repeat("w", 16), strings.Repeat("9s", 8), strings.Repeat("1w", 100), strings.Repeat("9q9b9s9w", 3), strings.Repeat("1s1", 1<<10),
		strings.Repeat("o", 256), strings.Repeat("o", 257), strings.Repeat("1", 1<<16), strings.Repeat("o", 1<<16+1), strings.Repeat("q", 1<<16), strings.Repeat("9q9b9s9w", 1<<13), strings.Repeat("0", 1<<16), strings.Repeat("1b", 1<<15), strings.Repeat("1qo", 1<<15),
		"9q9b9s9w9q9b9s99", "9q9b9s9w9q9b9s9w", "9q9b9s9w9q9b9s9o", "9q9b9s9w9q9b9s9s", "99q9b9s9w9q9b9s9", "o9q9b9s9w9q9b9s9", "9q9b9s9wo9q9b9s9", "9q9b9s9ow9q9b9s9", "9q9b9s9w9q9b9s9 ", "9q9b9s9w9q9b9s9" + strings.Repeat("9", 1<<16),
		"9q9b9s9wo9b9s9w", "9q9b9s9" + strings.Repeat("o", 300), "1w" + strings.Repeat("o", 300) + "1", strings.Repeat("1", 300) + "s",
	}
}
