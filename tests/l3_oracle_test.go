package tests

import (
	"math"
	"strings"
)

// What the document says of letters as numbers, told a second time in the plainest way.

// wordOrder has all letters of words in the order of texts.
const wordOrder = "*abcdefghijklmnopqrstuvwxyz"

// plainLetterValue is the value of a letter; 0 for other signs.
func plainLetterValue(sign byte) int {
	switch sign {
	case 'a', 'b', 'c', 'd', 'e', 'f', 'g', 'h', 'i':
		return int(sign-'a') + 1
	case 'j', 'k', 'l', 'm', 'n', 'o', 'p', 'q', 'r':
		return 10 * (int(sign-'j') + 1)
	case 's', 't', 'u', 'v', 'w', 'x', 'y', 'z':
		return 100 * (int(sign-'s') + 1)
	case '*':
		return 900
	}
	return 0
}

// plainAlpha has the letters of a number from 1 to 9999, digit by digit.
func plainAlpha(n int) string {
	thousands := []string{"", "'a", "'b", "'c", "'d", "'e", "'f", "'g", "'h", "'i"}
	hundreds := []string{"", "s", "t", "u", "v", "w", "x", "y", "z", "*"}
	tens := []string{"", "j", "k", "l", "m", "n", "o", "p", "q", "r"}
	ones := []string{"", "a", "b", "c", "d", "e", "f", "g", "h", "i"}
	return thousands[n/1000] + hundreds[n/100%10] + tens[n/10%10] + ones[n%10]
}

// numbersByLetters has all numbers by their letters.
func numbersByLetters() map[string]int {
	numbers := map[string]int{}
	for n := 1; n <= 9999; n++ {
		numbers[plainAlpha(n)] = n
	}
	return numbers
}

// plainWordSum is the sum of a word; 0 for other texts.
func plainWordSum(w string) int {
	if len(w) == 0 || len(w) > 20 {
		return 0
	}
	sum := 0
	for i := range len(w) {
		value := plainLetterValue(w[i])
		if value == 0 {
			return 0
		}
		sum += value
	}
	return sum
}

// plainNines adds digits until there is one.
func plainNines(n int) int {
	for n > 9 {
		sum := 0
		for ; n > 0; n /= 10 {
			sum += n % 10
		}
		n = sum
	}
	return n
}

// plainLeast finds the first of the shortest words for each sum up to 2000, from the words with one letter less.
func plainLeast() map[int]string {
	least := map[int]string{}
	level := map[int]string{0: ""}
	for len(least) < 2000 {
		next := map[int]string{}
		for sum, w := range level {
			for i := range len(wordOrder) {
				longer := wordOrder[i:i+1] + w
				sum := sum + plainLetterValue(wordOrder[i])
				if old, ok := next[sum]; sum <= 2000 && (!ok || longer < old) {
					next[sum] = longer
				}
			}
		}
		for sum, w := range next {
			if least[sum] == "" {
				least[sum] = w
			}
		}
		level = next
	}
	return least
}

// eachTextOf calls visit with all texts of just so many of some signs, in the order of these.
func eachTextOf(signs string, length int, visit func(string)) {
	text := make([]byte, length)
	var fill func(int)
	fill = func(i int) {
		if i == length {
			visit(string(text))
			return
		}
		for j := range len(signs) {
			text[i] = signs[j]
			fill(i + 1)
		}
	}
	fill(0)
}

// someWords has words of each length, of one letter, of several ones and of mixed ones.
func someWords() []string {
	words := []string{"cab", "abc", "alpha", "*", "**", "*irs", "sri*", "aaaaaaaaaaaaaaaaaaaa", "zyxwvutsrqponmlkjihg", "********************"}
	for i := range len(wordOrder) {
		for length := 1; length <= 20; length++ {
			words = append(words, strings.Repeat(wordOrder[i:i+1], length))
		}
		turned := wordOrder[i:] + wordOrder[:i]
		for length := 1; length <= 20; length++ {
			words = append(words, turned[:length])
		}
	}
	for n := 1; n < 1000; n += 7 {
		words = append(words, plainAlpha(n))
	}
	return words
}

// noWords has texts that are no words.
func noWords() []string {
	texts := []string{
		"", " ", "'", "''", "'a", "a'", "'at", "'atld", "A", "Z", "Cab", "caB", "c ab", " cab", "cab ", "cab\n", "\ncab", "c,ab", "c-ab", "-a",
		"0", "1", "12", "+", ")", "`", "{", "\x00", "a\x00", "\x00a", "\x7f", "\xff", "a\xffb", "\xe1", "ä", "α", "a\u0301", "*'", "'*", "* *", "*A",
		strings.Repeat("a", 21), strings.Repeat("*", 21), strings.Repeat("z", 22), strings.Repeat("a", 40), strings.Repeat("i", 256), strings.Repeat("i", 257),
		strings.Repeat("a", 1<<16), strings.Repeat("*", 1<<16+1), strings.Repeat("'", 20), strings.Repeat("A", 20), "abcdefghijklmnopqrstu", "*abcdefghijklmnopqrst",
	}
	for i := range 20 {
		for _, sign := range []byte{'\'', 'A', 'Z', '`', '{', ')', '+', '0', ' ', 0, 0xe1, 0xff} {
			text := []byte("*zrjiasabcdefghijklm")
			text[i] = sign
			texts = append(texts, string(text))
		}
	}
	return texts
}

// outsideAlpha has numbers without letters.
func outsideAlpha() []int {
	return []int{math.MinInt, math.MinInt + 1, -10000, -9999, -1000, -999, -10, -2, -1, 0, 10000, 10001, 10999, 11000, 19999, 20000, 99999, 100000, 1 << 32, 1<<32 + 1, math.MaxInt - 1, math.MaxInt}
}

// noAlphas has texts that are not the letters of a number.
func noAlphas() []string {
	return []string{
		"", "'", "''", "'''", " ", "'*", "'j", "'r", "'s", "'z", "'ja", "'*a", "'sld", "'zrj", "''a", "'a'", "'a'a", "'a'b", "a'", "a'a", "s'a", "t'ald", "tld'a", "tl'ad", "atld", "a'tld",
		"aa", "jj", "ss", "**", "ab", "ba", "js", "as", "aj", "ai", "ia", "ajs", "dlt", "tdl", "ltd", "ldt", "sjaa", "sjja", "ssja", "s*", "*s", "'aab", "'abt", "'atdl", "'altd", "'adlt", "'aaa", "'atldd", "'attld", "'ajj", "'ass", "'a**",
		"A", "'A", "'aT", "'atlD", "TLD", "'atld ", " 'atld", "'a tld", "'atld\n", "\x00", "'\x00", "'atld\x00", "\xff", "'\xff", "‘atld", "’atld", "`atld", "\"atld", "α", "'α",
		"0", "1", "1234", "-a", "-'a", "'-a", "+a",
		strings.Repeat("a", 20), strings.Repeat("*", 20), strings.Repeat("'", 20), strings.Repeat("'a", 5), strings.Repeat("'atld", 2), strings.Repeat("a", 1000), strings.Repeat("*", 1<<16),
		// The values of these add up to numbers from 1 to 9999.
		"aaaaa", "iiiii", "'aaaaaaaaaaa", "**********", "'i" + strings.Repeat("a", 999),
	}
}
