package tests

import (
	"math"
	"math/rand"
	"regexp"
	"strconv"
	"strings"
)

// What the document says of changes from one kind of numerals to the other, told a second time in the plainest way.

const (
	kindOrder       = "rackd"
	greatestLetters = 9999
	greatestDecimal = 99999999
	greatestStrict  = 3999
)

// kindRanges has the least and the greatest number that a kind has numerals of.
func kindRanges() map[string][2]int {
	return map[string][2]int{
		"r": {1, greatestStrict}, "a": {1, greatestLetters}, "c": {0, greatestClay}, "k": {0, greatestRanked}, "d": {0, greatestDecimal},
	}
}

func eachKind(visit func(kind string)) {
	for i := range len(kindOrder) {
		visit(kindOrder[i : i+1])
	}
}

// plainNumeral is the numeral of a kind of a number; nothing if there is none.
func plainNumeral(kind string, n int) string {
	between := kindRanges()[kind]
	if n < between[0] || n > between[1] {
		return ""
	}
	switch kind {
	case "r":
		return plainStrict(n)
	case "a":
		return plainAlpha(n)
	case "c":
		return plainClay(n)
	case "k":
		return plainRanked(n)
	}
	return strconv.Itoa(n)
}

var decimalShape = regexp.MustCompile(`\A(0|[1-9][0-9]{0,7})\z`)

// numeralReader has what is needed to read numerals without the program.
type numeralReader struct {
	strict, letters, parts map[string]int
}

func newNumeralReader() numeralReader {
	return numeralReader{strictTexts(), numbersByLetters(), rankedParts()}
}

// read is the number with a numeral of a kind; -1 for other texts.
func (r numeralReader) read(kind string, s string) int {
	found := func(numbers map[string]int) int {
		if n, ok := numbers[s]; ok {
			return n
		}
		return -1
	}
	switch kind {
	case "r":
		return found(r.strict)
	case "a":
		return found(r.letters)
	case "c":
		return plainClayRead(s)
	case "k":
		return plainRankRead(r.parts, s)
	}
	if !decimalShape.MatchString(s) {
		return -1
	}
	n, _ := strconv.Atoi(s)
	return n
}

// kinds has the kinds of which a text is a numeral.
func (r numeralReader) kinds(s string) string {
	kinds := ""
	eachKind(func(kind string) {
		if r.read(kind, s) >= 0 {
			kinds += kind
		}
	})
	return kinds
}

// plainKindsOf has the kinds that have a numeral of a number of just so many bytes.
func plainKindsOf(n int, length int) string {
	kinds := ""
	eachKind(func(kind string) {
		if text := plainNumeral(kind, n); text != "" && len(text) == length {
			kinds += kind
		}
	})
	return kinds
}

// plainShortKinds has the kinds whose numeral of a number is shortest: the first ones found with more and more bytes.
func plainShortKinds(n int) string {
	for length := 1; ; length++ {
		if kinds := plainKindsOf(n, length); kinds != "" {
			return kinds
		}
	}
}

// noKinds has texts that tell no kind.
func noKinds() []string {
	kinds := []string{
		"", "R", "A", "C", "K", "D", "ra", "ar", "rr", "aa", "cc", "kk", "dd", "rackd", "ack", "kd", "ckd", "dkcar", "r ", " r", "a ", " a", "c ", " c", "k ", " k", "d ", " d", "  ", "r\n", "\nr", "r\x00", "\x00r", "d\x00",
		"r,a", "roman", "alpha", "clay", "rank", "decimal", "ŕ", "á", "ç", "ḱ", "đ", "ｒ", "ａ", "ｄ", "а", "с", "\xffr", "r\xff", "rk", "I", "1", "10", "o",
		strings.Repeat("r", 5), strings.Repeat("d", 256), strings.Repeat("k", 257), strings.Repeat("rackd", 1<<10), strings.Repeat("a", 1<<16),
	}
	for sign := range 256 {
		if kind := string([]byte{byte(sign)}); !strings.Contains(kindOrder, kind) {
			kinds = append(kinds, kind)
		}
	}
	return kinds
}

// noDecimals has texts that are no decimal digits of a number, or with leading zeros.
func noDecimals() []string {
	texts := []string{
		"", " ", "-", "+", "00", "000", "01", "007", "010", "0000", "00000000", "00000001", "000000000", "099999999", "0099999999", "000000000000000000000000000001",
		"-0", "-1", "-00", "-99999999", "+0", "+1", "+99999999", "--1", "+-1", "1-", "1+", "- 1", " 0", "0 ", " 1", "1 ", "1 0", "\t1", "1\t", "1\n", "\n1", "1\r", "1\x00", "\x001", "0\n", "0\x00",
		"100000000", "100000001", "199999999", "999999999", "999999990", "1000000000", "2147483647", "2147483648", "4294967295", "4294967296", "4294967297", "9223372036854775807", "9223372036854775808", "9999999999999999999",
		"18446744073709551615", "18446744073709551616", "18446744073709551617", "18446744073809551615", "99999999999999999999", "-9223372036854775808", "-18446744073709551615",
		"a", "1a", "a1", "0a", "0x0", "0x1", "0b1", "0o1", "1_0", "1_000", "_1", "1_", "1e3", "1E3", "1.0", "1.", ".1", "1,000", "1/1", "1:", "/1", ":1", "1h", "Inf", "NaN", "x", "10s", "12k", "9999999I", "99999999a",
		"\xff", "1\xff", "\xff1", "\xb1", "１", "٣", "1٣", "¹", "²", "一", "〇", "Ⅰ",
		strings.Repeat("1", 9), strings.Repeat("9", 19), strings.Repeat("9", 20), strings.Repeat("0", 20), strings.Repeat("0", 1<<16), strings.Repeat("9", 1<<16), strings.Repeat("1", 1<<16+1), "1" + strings.Repeat("0", 1<<16), strings.Repeat("0", 1<<16) + "1",
	}
	for i := range 8 {
		for _, sign := range []byte{'/', ':', ' ', '-', '+', '_', '.', 'a', 0, 0xb0, 0xff} {
			text := []byte("12345678")
			text[i] = sign
			texts = append(texts, string(text))
		}
	}
	return texts
}

// noNumerals has texts that are no numerals of a kind, and of one another ones.
func noNumerals(kind string) []string {
	switch kind {
	case "r":
		// Loose texts and strict ones put together are no strict ones.
		return append(brokenTexts(), "IIII", "VV", "IIX", "IVX", "IC", "IM", "XM", "VX", "IMM", "MMMM", "MMMMI", "MMMCMXCIXI", "IIIIIIIIIIIIIIII", "VIV", "XLX", "MCMC")
	case "a":
		return append(noAlphas(), noWords()[:4]...)
	case "c":
		return noClays()
	case "k":
		return noRanked()
	}
	return noDecimals()
}

// changeNumbers has numbers at which something changes, and some by chance; some have numerals of all kinds.
func changeNumbers() []int {
	numbers := []int{
		0, 1, 2, 9, 10, 11, 14, 59, 60, 61, 99, 100, 101, 500, 900, 999, 1000, 1001, 1111, 1888, 1994, 3599, 3600, 3601, 3888, 3998, 3999, 4000, 4001,
		9998, 9999, 10000, 10001, 10010, 99999, 100000, 215999, 216000, 1000000, 1000001, 9999999, 10000000, 12959998, 12959999, 12960000, 12960001, 12345678, 87654321, 99990000, 99999998, 99999999,
	}
	chance := rand.New(rand.NewSource(8))
	for _, most := range []int{greatestStrict, greatestLetters, greatestClay, greatestDecimal} {
		for range 300 {
			numbers = append(numbers, chance.Intn(most+1))
		}
	}
	return numbers
}

// eachNumber calls visit with all numbers up to a bit more than 9999 and many greater ones.
func eachNumber(visit func(int)) {
	for n := 0; n <= 10100; n++ {
		visit(n)
	}
	for near := -100; near <= 100; near++ {
		visit(greatestClay + near)
		visit(greatestDecimal - 100 + near)
		visit(100100 + near)
		visit(1000000 + near)
	}
	for n := 10101; n <= greatestDecimal; n += 9973 {
		visit(n)
	}
	for _, n := range changeNumbers() {
		visit(n)
	}
}

// outsideAll has numbers without a numeral of any kind.
func outsideAll() []int {
	return []int{
		math.MinInt, math.MinInt + 1, math.MinInt32, -1 << 32, -100000000, -99999999, -12960000, -12959999, -10000, -9999, -4000, -3999, -1000, -100, -60, -11, -10, -9, -5, -2, -1,
		100000000, 100000001, 100000010, 199999999, 999999999, 1000000000, 1<<31 - 1, 1 << 31, 1 << 32, 1<<32 + 1, 1<<32 + 3999, 1<<40 + 5, 1 << 62, math.MaxInt - 1, math.MaxInt,
	}
}

// outsideOf has numbers without a numeral of one kind.
func outsideOf(kind string) []int {
	switch kind {
	case "r":
		return append(outsideRoman(), append(outsideAll(), greatestLetters, greatestClay, greatestRanked)...)
	case "a":
		return append(outsideAlpha(), append(outsideAll(), greatestClay, greatestRanked)...)
	case "c":
		return append(outsideClay(), append(outsideAll(), greatestRanked)...)
	case "k":
		return append(outsideRanked(), outsideAll()...)
	}
	return outsideAll()
}

// eachShortText calls visit with all texts of up to two of the signs of all kinds, and with longer ones of signs of each kind.
func eachShortText(visit func(string)) {
	const allKinds = "IVXLCDM'*abcdefghijklmnopqrstuvwxyz<Y. 0123456789-+"
	for length := range 3 {
		eachTextOf(allKinds, length, visit)
	}
	for _, signs := range []string{"IVXLCDM", "'abjks*o", "<Y. ", "019qbsow", "0129-+ "} {
		for length := 3; length <= 4; length++ {
			eachTextOf(signs, length, visit)
		}
	}
}
