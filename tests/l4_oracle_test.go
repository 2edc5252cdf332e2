package tests

import (
	"math"
	"regexp"
	"slices"
	"strings"
)

// What the document says of places of sixty and twenty, told a second time in the plainest way.

const greatestClay = 12959999

// plainClayDigit has the signs of a digit to the base 60.
func plainClayDigit(digit int) string {
	if digit == 0 {
		return "."
	}
	tens := []string{"", "<", "<<", "<<<", "<<<<", "<<<<<"}
	ones := []string{"", "Y", "YY", "YYY", "YYYY", "YYYYY", "YYYYYY", "YYYYYYY", "YYYYYYYY", "YYYYYYYYY"}
	return tens[digit/10] + ones[digit%10]
}

// plainClay is the clay text of a number, digit by digit.
func plainClay(n int) string {
	text := plainClayDigit(n % 60)
	for n >= 60 {
		n /= 60
		text = plainClayDigit(n%60) + " " + text
	}
	return text
}

var clayShape = regexp.MustCompile(`\A(\.|(<{1,5}Y{0,9}|Y{1,9})( (<{1,5}Y{0,9}|Y{1,9}|\.)){0,3})\z`)

// plainClayRead is the number with a clay text; -1 for other texts.
func plainClayRead(s string) int {
	if !clayShape.MatchString(s) {
		return -1
	}
	n := 0
	for _, digit := range strings.Split(s, " ") {
		n = 60*n + 10*strings.Count(digit, "<") + strings.Count(digit, "Y")
	}
	return n
}

// readingsByText has all readings, in ascending order, of each pressed text that has some.
func readingsByText() map[string][]int {
	readings := map[string][]int{}
	for n := 1; n <= 215999; n++ {
		clay := plainClay(n)
		text := strings.ReplaceAll(clay, " ", "")
		if !strings.Contains(clay, ".") && len(text) <= 8 {
			readings[text] = append(readings[text], n)
		}
	}
	return readings
}

// eachPressed calls visit with all pressed texts.
func eachPressed(visit func(string)) {
	for length := 1; length <= 8; length++ {
		eachTextOf("<Y", length, visit)
	}
}

// plainDays is the count of days of a number, each of its digits by itself.
func plainDays(n int) []int {
	return []int{n / 144000, n / 7200 % 20, n / 360 % 20, n / 20 % 18, n % 20}
}

func plainFrom(d []int) int {
	return 144000*d[0] + 7200*d[1] + 360*d[2] + 20*d[3] + d[4]
}

func plainProduct(p []int) int {
	product := 1
	for _, place := range p {
		product *= place
	}
	return product
}

// plainDigits has the digits of a number to some places, each one by itself.
func plainDigits(p []int, n int) []int {
	digits := make([]int, len(p))
	for i := range p {
		digits[i] = n / plainProduct(p[i+1:]) % p[i]
	}
	return digits
}

// plainPlaceNumber is the number with some digits, by what each one is worth.
func plainPlaceNumber(p, d []int) int {
	n := 0
	for i := range p {
		n += d[i] * plainProduct(p[i+1:])
	}
	return n
}

// clayNumbers has numbers with a clay text, most of them near to where something changes.
func clayNumbers() []int {
	numbers := []int{0, 1, 9, 10, 11, 49, 50, 51, 58, 59, 60, 61, 69, 70, 119, 120, 599, 600, 601, 3540, 3598, 3599, 3600, 3601, 3659, 3660, 3661, 7199, 7200,
		35999, 36000, 212400, 215940, 215998, 215999, 216000, 216001, 216059, 216060, 219599, 219600, 219660, 219661, 12744000, 12956400, 12959940, 12959998, greatestClay}
	// Each digit is 0, small, without ones, without tens, or the greatest one.
	some := []int{0, 1, 10, 40, 59}
	for _, a := range some {
		for _, b := range some {
			for _, c := range some {
				for _, d := range some {
					numbers = append(numbers, ((60*a+b)*60+c)*60+d)
				}
			}
		}
	}
	for n := 0; n <= 8000; n++ {
		numbers = append(numbers, n)
	}
	for n := 0; n <= greatestClay; n += 251 {
		numbers = append(numbers, n)
	}
	return numbers
}

// outsideClay has numbers without a clay text.
func outsideClay() []int {
	return []int{math.MinInt, math.MinInt + 1, -12960000, -12959999, -216000, -3600, -61, -60, -59, -10, -2, -1,
		12960000, 12960001, 12960059, 12960060, 13000000, 777599999, 777600000, 1 << 32, 1<<32 + 1, math.MaxInt - 1, math.MaxInt}
}

// noClays has texts that are no clay texts.
func noClays() []string {
	texts := []string{
		"", " ", "  ", "   ", ". ", " .", " . ", "..", "...", ". .", ". . .", ". . . .", ". Y", ". <", ". Y Y", ". . Y", ". Y .", ". . . Y", ". <<<<<YYYYYYYYY",
		"Y  Y", "Y   Y", "Y .  Y", "Y  .", "Y  Y Y", "Y Y  Y", "Y Y Y  Y", " Y", "Y ", " Y ", "Y Y ", " Y Y", "<  <", " <", "< ", "Y Y Y Y ", " Y Y Y Y", "  Y", "Y  ",
		"YYYYYYYYYY", "<YYYYYYYYYY", "<<<<<YYYYYYYYYY", "Y YYYYYYYYYY", "YYYYYYYYYY Y", "YYYYYYYYYYY", "<<<<<<", "<<<<<<Y", "<<<<<<YYYYYYYYY", "Y <<<<<<", "<<<<<< Y", "<<<<<<<",
		"Y<", "YY<", "Y<Y", "<Y<", "<Y<Y", "Y<<", "Y<< Y", "Y Y<", "<Y <Y<", "Y.", ".Y", "<.", ".<", "Y.Y", "Y .Y", "Y Y.", "Y.. Y", "Y .. Y", "<.Y",
		"Y Y Y Y Y", "Y . . . .", ". . . . .", ". Y Y Y Y", "<<<<<YYYYYYYYY <<<<<YYYYYYYYY <<<<<YYYYYYYYY <<<<<YYYYYYYYY Y", "Y Y Y Y Y Y",
		"0", "1", "60", "3661", "-", "-Y", "- Y", "+Y", "y", "Yy", "> ", ">", "Y>", "Y,Y", "Y\tY", "Y\nY", "Y\n", "\nY", "Y\r", "Y\x00", "\x00Y", "\x00", "Y \x00", "\xff", "Y\xff", "Y \xff", "Y\xa0Y", "Y\u00a0Y", "Ｙ", "＜", "𒁹", "𒌋", "∙", "Y ∙",
		strings.Repeat("Y", 60), strings.Repeat("<", 256), strings.Repeat("Y", 257), strings.Repeat("Y ", 1<<16), strings.Repeat(" ", 1<<16), strings.Repeat("<", 1<<16+1), strings.Repeat(".", 1<<16), strings.Repeat(". ", 1<<10) + "Y",
	}
	for i := range 14 {
		for _, sign := range []byte{'.', ' ', '>', '=', ';', 'y', 'X', 'Z', '0', '-', 0, 0xff} {
			text := []byte("<<<<<YYYYYYYYY")
			text[i] = sign
			if plainClayRead(string(text)) < 0 {
				texts = append(texts, string(text))
			}
		}
	}
	return texts
}

// noPressed has texts that are no pressed texts.
func noPressed() []string {
	texts := []string{
		"", " ", "  ", ".", "..", "Y.", ".Y", "Y.Y", "<.", ".<", "<.Y", "........", "Y Y", " Y", "Y ", "< Y", "Y <", " <Y", "<Y ", "Y  Y", "Y Y Y", "Y . Y", "Y\n", "\nY", "Y\tY",
		"YYYYYYYYY", "<<<<<<<<<", "<YYYYYYYY", "<<<<<YYYY", "<Y<Y<Y<Y<", "YYYYYYYYYY", "<<<<<YYYYYYYYY", "YYYYYYYYYYYYYYYY", "YYYY YYYY", "YYYYYYY ", " YYYYYYY", "YYYYYYY.", ".YYYYYYY",
		"y", "Yy", "yY", ">", "<>", "0", "1", "2", "61", "-", "-Y", "+Y", "\x00", "Y\x00", "\x00Y", "\xff", "Y\xff", "Y\xffY", "\xa0", "Ｙ", "＜", "𒁹", "𒌋", "<𒁹", "YÿY",
		strings.Repeat("Y", 256), strings.Repeat("Y", 257), strings.Repeat("<", 264), strings.Repeat("Y", 1<<16), strings.Repeat("<Y", 1<<15+1), strings.Repeat(" ", 8), strings.Repeat("X", 8), strings.Repeat(".", 9),
	}
	for i := range 8 {
		for _, sign := range []byte{'.', ' ', '=', ';', '>', 'y', 'X', 'Z', '0', 0, '\n', 0xff} {
			text := []byte("<<YY<YYY")
			text[i] = sign
			texts = append(texts, string(text), string(text[i:]), string(text[:i+1]))
		}
	}
	return texts
}

// greatestDay has the greatest digit at each place of a count of days.
func greatestDay() []int {
	return []int{19, 19, 19, 17, 19}
}

// noDays has lists that are no counts of days.
func noDays() [][]int {
	lists := [][]int{
		nil, {}, {0}, {1}, {19}, {0, 0, 0, 0}, {1, 2, 3, 4}, {19, 19, 17, 19}, {0, 0, 0, 0, 0, 0}, {0, 1, 2, 3, 4, 5}, {1, 2, 3, 4, 5, 6}, {0, 0, 0, 10, 3, 1}, {19, 19, 19, 17, 19, 0}, {0, 19, 19, 19, 17, 19},
		make([]int, 10), {20, 20, 20, 18, 20}, {-1, -1, -1, -1, -1}, {19, 19, 17, 19, 20}, {0, 0, 0, 19, 0}, {0, 0, 0, 18, 0}, {1, 0, 0, 0, -1}, {-1, 19, 19, 17, 20},
	}
	for i, most := range greatestDay() {
		for _, digit := range []int{math.MinInt, -20, -2, -1, most + 1, most + 2, 20, 21, 360, 1 << 32, math.MaxInt} {
			none := make([]int, 5)
			none[i] = digit
			full := greatestDay()
			full[i] = digit
			lists = append(lists, none, full)
		}
	}
	return lists
}

// somePlaces has lists of places of many shapes.
func somePlaces() [][]int {
	lists := [][]int{
		{2}, {3}, {10}, {60}, {99}, {100},
		{2, 2}, {2, 100}, {100, 2}, {100, 100}, {24, 60}, {7, 24}, {12, 20},
		{24, 60, 60}, {20, 12, 4}, {2, 3, 5}, {100, 2, 100},
		{60, 60, 60, 60}, {10, 10, 10, 10}, {7, 24, 60, 60}, {5, 4, 3, 2},
		{20, 20, 20, 18, 20}, {2, 3, 4, 5, 6}, {100, 99, 98, 97, 96},
		{2, 2, 2, 2, 2, 2}, {2, 3, 4, 5, 6, 7}, {7, 6, 5, 4, 3, 2}, {10, 10, 10, 10, 10, 10}, {2, 100, 2, 100, 2, 100}, {100, 2, 2, 2, 2, 2}, {2, 2, 2, 2, 2, 100}, {99, 99, 99, 99, 99, 99}, {100, 100, 100, 100, 100, 100},
	}
	for length := 1; length <= 6; length++ {
		lists = append(lists, slices.Repeat([]int{2}, length), slices.Repeat([]int{100}, length), slices.Repeat([]int{13}, length))
	}
	return lists
}

// noPlaces has lists that are no places.
func noPlaces() [][]int {
	lists := [][]int{
		nil, {}, {0, 0}, {1, 1}, {101, 101}, {-2, -2}, {1, 100}, {100, 1}, {2, 101}, {101, 2},
		slices.Repeat([]int{2}, 7), slices.Repeat([]int{100}, 7), slices.Repeat([]int{10}, 8), slices.Repeat([]int{2}, 12), slices.Repeat([]int{2}, 62), slices.Repeat([]int{2}, 64), slices.Repeat([]int{100}, 100),
		{2, 3, 4, 5, 6, 7, 8}, make([]int, 6), make([]int, 7), slices.Repeat([]int{math.MaxInt}, 6), slices.Repeat([]int{math.MinInt}, 6), {1 << 32, 1 << 32},
	}
	for length := 1; length <= 6; length++ {
		for i := range length {
			for _, place := range []int{math.MinInt, -100, -2, -1, 0, 1, 101, 102, 1000, 1 << 32, math.MaxInt} {
				low, high := slices.Repeat([]int{2}, length), slices.Repeat([]int{100}, length)
				low[i], high[i] = place, place
				lists = append(lists, low, high)
			}
		}
	}
	return lists
}

// placeNumbers has numbers that have digits to some places.
func placeNumbers(p []int) []int {
	product := plainProduct(p)
	numbers := []int{0, 1, product / 3, product / 2, product - 2, product - 1}
	for i := range p {
		behind := plainProduct(p[i+1:])
		for _, n := range []int{behind - 1, behind, behind + 1, (p[i] - 1) * behind, p[i]*behind - 1, p[i] * behind, product - behind, product - behind - 1} {
			if n >= 0 && n < product {
				numbers = append(numbers, n)
			}
		}
	}
	for n := 0; n < product; n += product/100 + 1 {
		numbers = append(numbers, n)
	}
	return numbers
}

// digitsLess has the greatest digits to some places.
func digitsLess(p []int) []int {
	digits := make([]int, len(p))
	for i, place := range p {
		digits[i] = place - 1
	}
	return digits
}

// noDigits has lists that are no digits to some places.
func noDigits(p []int) [][]int {
	none, full := make([]int, len(p)), digitsLess(p)
	lists := [][]int{
		make([]int, len(p)-1), make([]int, len(p)+1), full[1:], append([]int{0}, full...), append(slices.Clone(full), 0), append(slices.Clone(full), 1),
		make([]int, 2*len(p)), make([]int, 7), make([]int, 100), nil, {}, slices.Clone(p), slices.Repeat([]int{-1}, len(p)),
	}
	for i, place := range p {
		for _, digit := range []int{math.MinInt, -place, -2, -1, place, place + 1, 100, 101, 1 << 32, math.MaxInt} {
			one, all := slices.Clone(none), slices.Clone(full)
			one[i], all[i] = digit, digit
			lists = append(lists, one, all)
		}
	}
	return lists
}
