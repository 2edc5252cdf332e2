package tests

import (
	"math"
	"math/rand"
	"strings"
)

// What the document says of strokes on a stem, told a second time in the plainest way.

const (
	greatestStem = 9999
	mostStrokes  = 12
	// allSigns is how many sums of strokes there are at four places.
	allSigns = 1 << 20
)

// plainKinds has the kinds of a digit's strokes, the first one told by 1 and the fifth one by 5.
func plainKinds(digit int) string {
	return []string{"", "1", "2", "3", "4", "14", "5", "15", "25", "125"}[digit]
}

// stemDigits has the digits of a number, that of ones first.
func stemDigits(n int) [4]int {
	return [4]int{n % 10, n / 10 % 10, n / 100 % 10, n / 1000}
}

// plainStrokes has a text for each stroke of a number: the letter of its place and its kind.
func plainStrokes(n int) []string {
	var strokes []string
	for place, digit := range stemDigits(n) {
		for _, kind := range plainKinds(digit) {
			strokes = append(strokes, "othT"[place:place+1]+string(kind))
		}
	}
	return strokes
}

// plainSign is the sign of a number, by its digits.
func plainSign(n int) int {
	ofDigit := [10]int{0, 1, 2, 4, 8, 1 + 8, 16, 1 + 16, 2 + 16, 1 + 2 + 16}
	d := stemDigits(n)
	return ofDigit[d[0]] + 32*ofDigit[d[1]] + 1024*ofDigit[d[2]] + 32768*ofDigit[d[3]]
}

// numbersBySign has all numbers by their signs.
func numbersBySign() map[int]int {
	numbers := map[int]int{}
	for n := 0; n <= greatestStem; n++ {
		numbers[plainSign(n)] = n
	}
	return numbers
}

func plainTurned(n int) int {
	d := stemDigits(n)
	return 1000*d[0] + 100*d[1] + 10*d[2] + d[3]
}

func plainMirror(n int) int {
	d := stemDigits(n)
	return 1000*d[2] + 100*d[3] + 10*d[0] + d[1]
}

// plainWays has for each number of strokes how many ways there are to give four digits with it:
// one digit has none, five have one, three have two and one has three.
func plainWays() []int {
	ways := []int{1}
	for range 4 {
		more := make([]int, len(ways)+3)
		for strokes, count := range ways {
			for added, digits := range []int{1, 5, 3, 1} {
				more[strokes+added] += count * digits
			}
		}
		ways = more
	}
	return ways
}

// plainNear counts the strokes that are found in the text of one number only.
func plainNear(m, n int) int {
	ofOne, ofOther := strings.Join(plainStrokes(m), " "), strings.Join(plainStrokes(n), " ")
	near := 0
	for _, stroke := range plainStrokes(m) {
		if !strings.Contains(ofOther, stroke) {
			near++
		}
	}
	for _, stroke := range plainStrokes(n) {
		if !strings.Contains(ofOne, stroke) {
			near++
		}
	}
	return near
}

// someStemNumbers has the numbers that the document names, each digit at each place, numbers that are the same turned
// or in a mirror, and some by chance.
func someStemNumbers() []int {
	numbers := []int{
		0, 1, 5, 9, 10, 99, 100, 101, 999, 1000, 1001, 9998, 9999,
		1234, 4321, 2143, 3412, 5678, 8765, 6789, 579, 4807, 9090, 909, 7007, 1199, 9911, 1919, 2552, 5225, 1331, 8998, 1010, 110, 1100, 11,
	}
	for digit := range 10 {
		for _, unit := range []int{1, 10, 100, 1000, 11, 101, 1001, 110, 1010, 1100, 1111} {
			numbers = append(numbers, digit*unit, greatestStem-digit*unit)
		}
	}
	chance := rand.New(rand.NewSource(7))
	for range 200 {
		numbers = append(numbers, chance.Intn(greatestStem+1))
	}
	return numbers
}

// outsideStem has numbers without a stem.
func outsideStem() []int {
	return []int{
		math.MinInt, math.MinInt + 1, math.MinInt32, -1 << 32, -100000, -10000, -9999, -9998, -1234, -1001, -1000, -999, -101, -100, -99, -32, -11, -10, -9, -5, -2, -1,
		10000, 10001, 10010, 10099, 11000, 12345, 19999, 20000, 32768, 65536, 65537, 90000, 99999, 100000, 100001, 123456, 999999, 1000000, allSigns - 1, allSigns, allSigns + 1,
		99999999, 1<<31 - 1, 1 << 31, 1 << 32, 1<<32 + 1, 1<<32 + 9999, 1<<40 + 5, 1 << 62, math.MaxInt - 1, math.MaxInt,
	}
}

// strokesOfNoDigit has all sums of the weights of one place's strokes that are no digit.
func strokesOfNoDigit() []int {
	return []int{3, 5, 6, 7, 10, 11, 12, 13, 14, 15, 20, 21, 22, 23, 24, 25, 26, 27, 28, 29, 30, 31}
}

// noSigns has numbers that are no sign.
func noSigns() []int {
	greatest := plainSign(greatestStem)
	signs := []int{
		math.MinInt, math.MinInt + 1, -1 << 62, -1 << 40, -1 << 32, -1<<32 + 1, -allSigns - 1, -allSigns, -allSigns + 1, -greatest - 1, -greatest, -greatest + 1, -32769, -32768, -1025, -1024, -1023,
		-41, -33, -32, -31, -20, -19, -18, -17, -16, -9, -8, -4, -3, -2, -1,
		greatest + 1, greatest + 2, greatest + 13, allSigns - 1, allSigns, allSigns + 1, allSigns + 2, allSigns + 41, allSigns + greatest, 2 * allSigns, 19 * allSigns, 19*allSigns + greatest, 32 * allSigns,
		1 << 24, 1 << 25, 1 << 30, 1<<31 - 1, 1 << 31, 1 << 32, 1<<32 + 1, 1<<32 + 41, 1<<32 + greatest, 1 << 40, 1 << 60, 1<<60 + 1, 1 << 62, math.MaxInt - 1, math.MaxInt,
	}
	for _, strokes := range strokesOfNoDigit() {
		for _, unit := range []int{1, 32, 1024, 32768} {
			signs = append(signs, strokes*unit, greatest+(strokes-19)*unit, plainSign(1111)+(strokes-1)*unit)
		}
	}
	return signs
}
