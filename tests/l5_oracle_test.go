package tests

import (
	"math"
	"math/rand"
	"slices"
)

// What the document says of signs that are taken off, told a second time in the plainest way.

// greatestMost is the greatest number that TakenMost is asked for.
const greatestMost = 2000

func withoutSign(number int) int {
	if number < 0 {
		return -number
	}
	return number
}

// signedSize is the sum of all numbers without their signs.
func signedSize(pile []int) int {
	size := 0
	for _, number := range pile {
		size += withoutSign(number)
	}
	return size
}

// signedAhead reports whether one of two signed piles with the same value is to be taken rather than the other.
func signedAhead(a, b []int) bool {
	if signedSize(a) != signedSize(b) {
		return signedSize(a) < signedSize(b)
	}
	for i := range a {
		if a[i] != b[i] {
			return a[i] > b[i]
		}
	}
	return false
}

// plainShortPile is the short pile of a number: the best of many signed piles, made from the greatest value on,
// with the numbers next to what is left at each place.
func plainShortPile(values []int, n int) []int {
	best, tried := plainPileOf(values, n), make([]int, len(values))
	var fill func(place, left int)
	fill = func(place, left int) {
		if place == 0 {
			tried[0] = left
			if signedAhead(tried, best) {
				copy(best, tried)
			}
			return
		}
		below := int(math.Floor(float64(left) / float64(values[place])))
		for number := below - 1; number <= below+2; number++ {
			tried[place] = number
			fill(place-1, left-number*values[place])
		}
	}
	fill(len(values)-1, n)
	return best
}

// eachSigned calls visit with all lists of so many numbers with a size, those with the greater number
// at the first place at which they differ first.
func eachSigned(count, size int, visit func([]int)) {
	list := make([]int, count)
	var fill func(place, left int)
	fill = func(place, left int) {
		if place == count-1 {
			list[place] = left
			visit(list)
			if left > 0 {
				list[place] = -left
				visit(list)
			}
			return
		}
		for number := left; number >= -left; number-- {
			list[place] = number
			fill(place+1, left-withoutSign(number))
		}
	}
	fill(0, size)
}

// shortPilesTo has the short piles of all numbers from 0 to most, found among all signed piles whatever:
// the first one with a value is the short one.
func shortPilesTo(values []int, most int) [][]int {
	found := make([][]int, most+1)
	missing := len(found)
	for size := 0; missing > 0; size++ {
		eachSigned(len(values), size, func(pile []int) {
			value := plainValue(values, pile)
			if value >= 0 && value <= most && found[value] == nil {
				found[value] = slices.Clone(pile)
				missing--
			}
		})
	}
	return found
}

// smallSystems has systems, and up to which number all signed piles of them are looked at.
func smallSystems() []struct {
	values []int
	most   int
} {
	return []struct {
		values []int
		most   int
	}{
		{[]int{1}, 300},
		{[]int{1, 2}, 200}, {[]int{1, 3}, 200}, {[]int{1, 4}, 200}, {[]int{1, 7}, 300}, {[]int{1, 10}, 500}, {[]int{1, 999999}, 300}, {[]int{1, 1000000}, 300},
		{[]int{1, 2, 4}, 100}, {[]int{1, 3, 9}, 200}, {[]int{1, 2, 10}, 200}, {[]int{1, 10, 20}, 300}, {[]int{1, 5, 25}, 300}, {[]int{1, 10, 100}, 1500}, {[]int{1, 12, 240}, 1000}, {[]int{1, 2, 1000000}, 60}, {[]int{1, 500000, 1000000}, 40},
		{[]int{1, 2, 4, 8}, 100}, {[]int{1, 10, 100, 1000}, 2500}, {[]int{1, 5, 10, 50}, 300}, {[]int{1, 3, 9, 27}, 200}, {[]int{1, 4, 16, 64}, 300}, {[]int{1, 20, 360, 7200}, 200},
		{[]int{1, 2, 4, 8, 16}, 150}, {[]int{1, 2, 6, 24, 120}, 400}, {[]int{1, 5, 25, 125, 625}, 1200}, {[]int{1, 3, 6, 18, 36}, 200},
		{[]int{1, 2, 4, 8, 16, 32}, 150}, {[]int{1, 3, 9, 27, 81, 243}, 600}, {[]int{1, 5, 10, 50, 100, 500}, 1500}, {[]int{1, 4, 8, 16, 80, 240}, 500}, {[]int{1, 2, 6, 30, 210, 2310}, 600}, {[]int{1, 10, 100, 1000, 10000, 100000}, 600},
	}
}

// takenSystems has systems of many shapes, with even steps, with odd ones and with both.
func takenSystems() [][]int {
	return append(systems(),
		[]int{1, 7}, []int{1, 500000}, []int{1, 500001}, []int{1, 333333, 999999}, []int{1, 3, 9}, []int{1, 5, 25, 125},
		[]int{1, 3, 9, 27, 81, 243}, []int{1, 7, 49, 343, 2401, 16807}, []int{1, 10, 50, 100, 500, 1000}, []int{1, 15, 225, 3375, 50625, 759375}, []int{1, 2, 10, 30, 120, 960},
	)
}

// middleNumbers has numbers that have, at each place but the last one of their plain pile, nothing, the middle of a step, or one near to it.
func middleNumbers(values []int) []int {
	numbers := []int{}
	var fill func(place, sum int)
	fill = func(place, sum int) {
		if sum > greatest {
			return
		}
		if place == len(values)-1 {
			for _, last := range []int{0, 1, greatest/values[place] - 1} {
				if n := sum + last*values[place]; n >= 0 && n <= greatest {
					numbers = append(numbers, n)
				}
			}
			return
		}
		step := values[place+1] / values[place]
		fill(place+1, sum)
		for number := max(step/2-1, 1); number <= min((step+1)/2+1, step-1); number++ {
			fill(place+1, sum+number*values[place])
		}
	}
	fill(0, 0)
	return numbers
}

// noTakenNumbers has numbers without a short pile.
func noTakenNumbers() []int {
	return []int{math.MinInt, math.MinInt + 1, -1000001, -1000000, -999999, -2000, -10, -1, 1000001, 1000002, 2000000, 1 << 32, math.MaxInt - 1, math.MaxInt}
}

// signedWith is a list with a value, and true if no number of it is too great for a signed pile.
func signedWith(chance *rand.Rand, values []int, n int) ([]int, bool) {
	pile, left := make([]int, len(values)), n
	for i := len(values) - 1; i > 0; i-- {
		pile[i] = left/values[i] + chance.Intn(9) - 4
		left -= pile[i] * values[i]
	}
	pile[0] = left
	return pile, slices.Max(pile) <= greatest && slices.Min(pile) >= -greatest
}

// edgeValues has values near to where TakenValue begins to fail, and others.
func edgeValues() []int {
	return []int{0, 1, -1, 9, -9, 100, -100, 123456, -654321, 999998, 999999, greatest, 1000001, 1000002, -999998, -999999, -greatest, -1000001, -1000002, 1000010, -1000010, 2000000, -2000000}
}

// turnedAtRandom is a list with the signs of some numbers turned.
func turnedAtRandom(chance *rand.Rand, list []int) []int {
	turned := slices.Clone(list)
	for i := range turned {
		if chance.Intn(2) == 0 {
			turned[i] = -turned[i]
		}
	}
	return turned
}

func plainlyTurned(list []int) []int {
	turned := make([]int, len(list))
	for i, number := range list {
		turned[i] = -number
	}
	return turned
}

// someSigned has signed piles of a system: with values just inside and just outside of what may be, with the greatest and the least numbers, and others.
func someSigned(values []int) [][]int {
	chance := rand.New(rand.NewSource(int64(5*len(values)*greatest + values[len(values)-1])))
	piles := [][]int{make([]int, len(values)), slices.Repeat([]int{-1}, len(values)), slices.Repeat([]int{greatest}, len(values)), slices.Repeat([]int{-greatest}, len(values))}
	for i := range values {
		for _, number := range []int{-greatest, -1000, -11, -10, -9, -2, -1} {
			one, others := make([]int, len(values)), slices.Repeat([]int{1}, len(values))
			one[i], others[i] = number, number
			piles = append(piles, one, plainlyTurned(one), others, plainlyTurned(others))
		}
	}
	for _, pile := range somePiles(values) {
		piles = append(piles, pile, plainlyTurned(pile), turnedAtRandom(chance, pile))
	}
	for _, n := range edgeValues() {
		for range 10 {
			if pile, ok := signedWith(chance, values, n); ok {
				piles = append(piles, pile)
			}
		}
	}
	return piles
}

// noSigned has lists that are no signed piles of a system.
func noSigned(values []int) [][]int {
	lists := [][]int{
		make([]int, len(values)-1), make([]int, len(values)+1), slices.Repeat([]int{-1}, len(values)-1), slices.Repeat([]int{-1}, len(values)+1),
		append(slices.Repeat([]int{1}, len(values)), 0), append(make([]int, len(values)), 1), append([]int{0}, slices.Repeat([]int{1}, len(values))...),
		make([]int, 2*len(values)), make([]int, 7), make([]int, 12), make([]int, 1000), nil, {}, slices.Repeat([]int{greatest + 1}, len(values)), slices.Repeat([]int{-greatest - 1}, len(values)),
	}
	for i := range values {
		for _, number := range []int{math.MinInt, math.MinInt + 1, -1 << 32, -2 * greatest, -greatest - 2, -greatest - 1, greatest + 1, greatest + 2, 2 * greatest, 1 << 32, math.MaxInt} {
			one, others := make([]int, len(values)), slices.Repeat([]int{-1}, len(values))
			one[i], others[i] = number, number
			lists = append(lists, one, others)
			if i > 0 { // with a value near to 0, were it a signed pile
				even := slices.Clone(one)
				even[i-1] = -number
				lists = append(lists, even)
			}
		}
	}
	return lists
}
