package tests

import (
	"fmt"
	"math"
	"math/rand"
	"slices"
	"testing"
)

// What the document says of piles of signs, told a second time in the plainest way.

const greatest = 1000000

// plainSystem reports whether a list is a system, condition by condition.
func plainSystem(values []int) bool {
	if len(values) == 0 || len(values) > 6 {
		return false
	}
	for i, value := range values {
		if value > greatest {
			return false
		}
		if i == 0 && value != 1 {
			return false
		}
		// All values that are looked at are at least 1, as the first one is 1 and they grow.
		if i > 0 && (value <= values[i-1] || value%values[i-1] != 0) {
			return false
		}
	}
	return true
}

// plainPileOf is the plain pile of a number, each of its numbers by itself.
func plainPileOf(values []int, n int) []int {
	pile := make([]int, len(values))
	for i := range values {
		pile[i] = n / values[i]
		if i+1 < len(values) {
			pile[i] = n % values[i+1] / values[i]
		}
	}
	return pile
}

// plainValue is the value of a pile, also of one that is greater than PileValue allows.
func plainValue(values, pile []int) int {
	sum := 0
	for i := range values {
		sum += values[i] * pile[i]
	}
	return sum
}

func plainSize(pile []int) int {
	signs := 0
	for _, number := range pile {
		signs += number
	}
	return signs
}

func plainlyPlain(values, pile []int) bool {
	for i := 0; i+1 < len(values); i++ {
		if pile[i]*values[i] >= values[i+1] {
			return false
		}
	}
	return true
}

// plainSteps counts the exchanges for each value by all that the signs ahead of it are worth.
func plainSteps(values, pile []int) int {
	steps := 0
	for i := 1; i < len(values); i++ {
		steps += plainValue(values[:i], pile[:i]) / values[i]
	}
	return steps
}

// triedSteps makes one exchange after the other, at a place that choose picks, until none is left.
func triedSteps(values, pile []int, choose func(int) int) (int, []int) {
	left := slices.Clone(pile)
	for steps := 0; ; steps++ {
		var places []int
		for i := 0; i+1 < len(values); i++ {
			if left[i]*values[i] >= values[i+1] {
				places = append(places, i)
			}
		}
		if len(places) == 0 {
			return steps, left
		}
		at := places[choose(len(places))]
		left[at] -= values[at+1] / values[at]
		left[at+1]++
	}
}

// systems has systems of many shapes.
func systems() [][]int {
	return [][]int{
		{1},
		{1, 2}, {1, 3}, {1, 10}, {1, 999999}, {1, greatest},
		{1, 2, 4}, {1, 10, 100}, {1, 12, 240}, {1, 2, greatest}, {1, 500000, greatest},
		{1, 10, 100, 1000}, {1, 5, 10, 50}, {1, 20, 360, 7200},
		{1, 60, 3600, 21600, 216000}, {1, 2, 6, 24, 120},
		{1, 2, 4, 8, 16, 32}, {1, 10, 100, 1000, 10000, 100000}, {1, 5, 10, 50, 100, 500},
		{1, 10, 60, 600, 3600, 36000}, {1, 10, 100, 1000, 10000, greatest}, {1, 31250, 62500, 125000, 500000, greatest},
		{1, 2, 6, 30, 210, 2310},
	}
}

// noSystems has lists that are no systems.
func noSystems() [][]int {
	return [][]int{
		nil, {}, {0}, {2}, {-1}, {10}, {greatest}, {math.MaxInt}, {math.MinInt},
		{0, 1}, {2, 4}, {-1, 1}, {-1, -2}, {10, 100}, {0, 0}, {2, 1},
		{1, 1}, {1, 0}, {1, -1}, {1, -2}, {1, -10}, {1, math.MinInt}, {1, math.MaxInt}, {1, greatest + 1}, {1, 2 * greatest},
		{1, 2, 3}, {1, 2, 2}, {1, 2, 1}, {1, 4, 2}, {1, 10, 5}, {1, 10, 15}, {1, 10, 101}, {1, 10, 99}, {1, 3, 4}, {1, 10, 0}, {1, 10, -10}, {1, 10, -100},
		{1, 0, 0}, {1, 0, 2}, {1, -2, 4}, {1, 2, greatest + 2}, {1, 2, 2 * greatest}, {1, 2 * greatest, 4 * greatest}, {1, 2 * greatest, 2}, {1, greatest, greatest}, {1, greatest, 2 * greatest},
		{1, 2, 4, 6}, {1, 2, 6, 9}, {1, 10, 100, 100}, {1, 10, 100, 150}, {1, 2, 4, 2}, {1, 10, 100, 10},
		{1, 2, 4, 8, 16, 24}, {1, 2, 4, 8, 16, 16}, {1, 2, 4, 8, 16, 8}, {1, 2, 4, 8, 16, 0}, {1, 2, 4, 8, 16, -32}, {1, 2, 4, 8, 16, greatest + 8},
		{2, 4, 8, 16, 32, 64}, {0, 10, 100, 1000, 10000, 100000}, {1, 100, 1000, 10000, 100000, greatest + 100000},
		{1, 2, 4, 8, 16, 32, 64}, {1, 10, 100, 1000, 10000, 100000, greatest}, {1, 1, 1, 1, 1, 1, 1}, {1, 2, 4, 8, 16, 32, 64, 128},
		{1, 2, 4, 8, 16, 32, 64, 128, 256, 512, 1024, 2048}, make([]int, 100),
	}
}

// someNumbers has numbers from 0 to the greatest one, most of them near to where something changes.
func someNumbers(values []int) []int {
	numbers := []int{0, 1, 2, 3, 9, 10, 11, 99, 100, 101, 999, 1000, 123456, 500000, 654321, greatest - 2, greatest - 1, greatest}
	for i, value := range values {
		numbers = append(numbers, value-1, value, greatest-value)
		if value < greatest {
			numbers = append(numbers, value+1)
		}
		if i > 0 {
			numbers = append(numbers, value-values[i-1], greatest-value+values[i-1])
		}
	}
	return numbers
}

// somePiles has piles of a system, plain ones and others, many of them with values up to the greatest number, some with greater ones.
func somePiles(values []int) [][]int {
	chance := rand.New(rand.NewSource(int64(len(values)*greatest + values[len(values)-1])))
	piles := [][]int{make([]int, len(values)), slices.Repeat([]int{1}, len(values)), slices.Repeat([]int{greatest}, len(values))}
	for i, value := range values {
		for _, number := range []int{1, 2, 9, 10, 11, greatest/value - 1, greatest / value, greatest/value + 1, greatest - 1, greatest} {
			pile := make([]int, len(values))
			pile[i] = min(number, greatest)
			piles = append(piles, pile)
		}
	}
	for _, n := range someNumbers(values) {
		piles = append(piles, plainPileOf(values, n), changedBack(chance, values, n))
	}
	for range 100 {
		small, great := make([]int, len(values)), make([]int, len(values))
		for i, value := range values {
			small[i] = chance.Intn(min(30, greatest/len(values)/value+2))
			great[i] = chance.Intn(greatest/len(values)/value + 2)
		}
		piles = append(piles, small, great)
	}
	return piles
}

// changedBack makes a pile with a number as its value by exchanging signs of a plain one for smaller ones.
func changedBack(chance *rand.Rand, values []int, n int) []int {
	pile := plainPileOf(values, n)
	for i := len(values) - 1; i > 0; i-- {
		given := chance.Intn(pile[i] + 1)
		pile[i] -= given
		pile[i-1] += given * (values[i] / values[i-1])
	}
	return pile
}

// noPiles has lists that are no piles of a system.
func noPiles(values []int) [][]int {
	lists := [][]int{
		make([]int, len(values)-1), make([]int, len(values)+1), append(slices.Repeat([]int{1}, len(values)), 0), append(slices.Repeat([]int{1}, len(values)), 1),
		slices.Repeat([]int{1}, len(values)-1), make([]int, 2*len(values)), make([]int, 7), make([]int, 12), nil, {}, slices.Repeat([]int{-1}, len(values)),
	}
	for i := range values {
		for _, number := range []int{math.MinInt, -greatest, -2, -1, greatest + 1, greatest + 2, 2 * greatest, 1 << 32, math.MaxInt} {
			pile := make([]int, len(values))
			pile[i] = number
			others := slices.Repeat([]int{1}, len(values))
			others[i] = number
			lists = append(lists, pile, others)
		}
	}
	return lists
}

// withRoom is a copy of a list that has room behind it, with marks in it.
func withRoom(list []int) []int {
	room := make([]int, len(list)+4)
	copy(room, list)
	for i := len(list); i < len(room); i++ {
		room[i] = -77
	}
	return room[:len(list)]
}

// stillAs fails if a list made by withRoom is not what it was made of.
func stillAs(t *testing.T, what string, list, want []int) {
	t.Helper()
	room := list[:cap(list)]
	if !slices.Equal(list, want) {
		t.Errorf("%s: an argument %v has become %v", what, want, list)
	}
	for _, mark := range room[len(list) : len(want)+4] {
		if mark != -77 {
			t.Errorf("%s: what is behind an argument %v has become %v", what, want, room)
		}
	}
}

func wantPile(t *testing.T, what string, got []int, ok bool, want []int) {
	t.Helper()
	if !ok || !slices.Equal(got, want) {
		t.Errorf("%s: %v, %v; expected %v, true", what, got, ok, want)
	}
}

func wantNoPile(t *testing.T, what string, got []int, ok bool) {
	t.Helper()
	if ok || len(got) != 0 {
		t.Errorf("%s: %v, %v; expected [], false", what, got, ok)
	}
}

func wantHeld(t *testing.T, what string, got, want bool) {
	t.Helper()
	if got != want {
		t.Errorf("%s: %v; expected %v", what, got, want)
	}
}

func call(name string, lists ...any) string {
	return fmt.Sprint(name, lists)
}
