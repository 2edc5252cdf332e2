package tests

import (
	"math"
	"math/rand"
	"slices"
	"sync"
	"testing"

	"loop.example/peoplesnumerals/impl"
)

// What PileIn holds for.

func TestPileIn(t *testing.T) {
	for _, values := range systems() {
		wantHeld(t, call("PileIn", values), impl.PileIn(values), true)
	}
	for _, values := range noSystems() {
		wantHeld(t, call("PileIn", values), impl.PileIn(values), false)
	}
}

// All short lists of small numbers.
func TestPileInSmall(t *testing.T) {
	var try func(list []int)
	try = func(list []int) {
		wantHeld(t, call("PileIn", list), impl.PileIn(list), plainSystem(list))
		if len(list) == 4 {
			return
		}
		for value := -2; value <= 12; value++ {
			try(append(list, value))
		}
	}
	try(nil)
}

// Systems in which one value is another one.
func TestPileInNear(t *testing.T) {
	for _, values := range systems() {
		for i := range values {
			for _, value := range []int{math.MinInt, -values[i], -1, 0, 1, 2, 3, values[i] - 1, values[i] + 1, 2 * values[i], 3 * values[i], greatest - 1, greatest, greatest + 1, 2 * greatest, 1 << 40, math.MaxInt} {
				near := slices.Clone(values)
				near[i] = value
				wantHeld(t, call("PileIn", near), impl.PileIn(near), plainSystem(near))
			}
		}
		for _, value := range []int{-2, 0, 1, 2, values[len(values)-1], 2 * values[len(values)-1], greatest, 2 * greatest} {
			near := append(slices.Clone(values), value)
			wantHeld(t, call("PileIn", near), impl.PileIn(near), plainSystem(near))
		}
	}
}

// Promise 9.

func TestPromise9(t *testing.T) {
	for _, values := range systems() {
		if !impl.PileIn(values) {
			t.Errorf("PileIn(%v) does not hold", values)
		}
		none := make([]int, len(values))
		got, ok := impl.PileOf(values, 0)
		wantPile(t, call("PileOf", values, 0), got, ok, none)
		for i, value := range values {
			one := slices.Clone(none)
			one[i] = 1
			got, ok := impl.PileOf(values, value)
			wantPile(t, call("PileOf", values, value), got, ok, one)
		}
	}
}

// Promise 10, and what PileOf returns.

func TestPileOf(t *testing.T) {
	for _, known := range []struct {
		values []int
		n      int
		want   []int
	}{
		{[]int{1}, 0, []int{0}}, {[]int{1}, 7, []int{7}}, {[]int{1}, 1000000, []int{1000000}},
		{[]int{1, 10, 100}, 234, []int{4, 3, 2}}, {[]int{1, 10, 100}, 1000000, []int{0, 0, 10000}}, {[]int{1, 10, 100}, 999999, []int{9, 9, 9999}},
		{[]int{1, 1000000}, 1000000, []int{0, 1}}, {[]int{1, 1000000}, 999999, []int{999999, 0}},
		{[]int{1, 12, 240}, 251, []int{11, 0, 1}}, {[]int{1, 20, 360, 7200}, 7199, []int{19, 17, 19, 0}},
		{[]int{1, 2, 4, 8, 16, 32}, 63, []int{1, 1, 1, 1, 1, 1}}, {[]int{1, 2, 4, 8, 16, 32}, 1000000, []int{0, 0, 0, 0, 0, 31250}},
		{[]int{1, 10, 100, 1000, 10000, 100000}, 654321, []int{1, 2, 3, 4, 5, 6}},
	} {
		got, ok := impl.PileOf(known.values, known.n)
		wantPile(t, call("PileOf", known.values, known.n), got, ok, known.want)
	}
	for _, values := range systems() {
		for _, n := range someNumbers(values) {
			got, ok := impl.PileOf(values, n)
			wantPile(t, call("PileOf", values, n), got, ok, plainPileOf(values, n))
		}
		for n := 0; n <= greatest; n += 7919 {
			got, ok := impl.PileOf(values, n)
			wantPile(t, call("PileOf", values, n), got, ok, plainPileOf(values, n))
		}
	}
}

func TestPileOfInvalid(t *testing.T) {
	for _, values := range systems() {
		for _, n := range []int{math.MinInt, -1000001, -1000000, -10, -1, 1000001, 1000002, 2000000, 1 << 32, math.MaxInt} {
			got, ok := impl.PileOf(values, n)
			wantNoPile(t, call("PileOf", values, n), got, ok)
		}
	}
	for _, values := range noSystems() {
		for _, n := range []int{math.MinInt, -1, 0, 1, 10, 1000000, 1000001, math.MaxInt} {
			got, ok := impl.PileOf(values, n)
			wantNoPile(t, call("PileOf", values, n), got, ok)
		}
	}
}

func TestPromise10(t *testing.T) {
	for _, values := range systems() {
		numbers := someNumbers(values)
		for n := 0; n <= greatest; n += 9973 {
			numbers = append(numbers, n)
		}
		for _, n := range numbers {
			pile, ok := impl.PileOf(values, n)
			if !ok {
				t.Errorf("PileOf(%v, %d) fails", values, n)
			}
			got, ok := impl.PileValue(values, pile)
			wantNumber(t, call("PileValue", values, pile), got, ok, n)
			wantHeld(t, call("PilePlain", values, pile), impl.PilePlain(values, pile), true)
		}
	}
}

// Promise 11, and what PileValue returns.

func TestPileValue(t *testing.T) {
	for _, known := range []struct {
		values, pile []int
		want         int
	}{
		{[]int{1}, []int{0}, 0}, {[]int{1}, []int{1000000}, 1000000},
		{[]int{1, 10, 100}, []int{4, 3, 2}, 234}, {[]int{1, 10, 100}, []int{14, 12, 0}, 134}, {[]int{1, 10, 100}, []int{1000000, 0, 0}, 1000000},
		{[]int{1, 10, 100}, []int{0, 0, 10000}, 1000000}, {[]int{1, 10, 100}, []int{10, 9, 9999}, 1000000},
		{[]int{1, 1000000}, []int{0, 1}, 1000000}, {[]int{1, 1000000}, []int{1000000, 0}, 1000000},
		{[]int{1, 2, 4, 8, 16, 32}, []int{1, 2, 3, 4, 5, 6}, 321},
	} {
		got, ok := impl.PileValue(known.values, known.pile)
		wantNumber(t, call("PileValue", known.values, known.pile), got, ok, known.want)
	}
	for _, values := range systems() {
		for _, pile := range somePiles(values) {
			got, ok := impl.PileValue(values, pile)
			if want := plainValue(values, pile); want <= greatest {
				wantNumber(t, call("PileValue", values, pile), got, ok, want)
			} else {
				wantNoNumber(t, call("PileValue", values, pile), got, ok)
			}
		}
	}
}

// tooGreat has piles with values just above the greatest one, or far above it.
func tooGreat() [][2][]int {
	return [][2][]int{
		{{1, 10, 100}, {1, 0, 10000}}, {{1, 10, 100}, {1000000, 1, 0}}, {{1, 10, 100}, {11, 9, 9999}}, {{1, 10, 100}, {0, 0, 10001}},
		{{1, 10, 100}, {0, 100001, 0}}, {{1, 10, 100}, {1, 100000, 0}}, {{1, 10, 100}, {0, 0, 1000000}},
		{{1, 1000000}, {0, 2}}, {{1, 1000000}, {1, 1}}, {{1, 1000000}, {1000000, 1}}, {{1, 1000000}, {0, 1000000}}, {{1, 999999}, {2, 1}},
		{{1, 2, 4, 8, 16, 32}, {1, 0, 0, 0, 0, 31250}}, {{1, 2, 4, 8, 16, 32}, {1000000, 1000000, 1000000, 1000000, 1000000, 1000000}},
		{{1, 10, 100, 1000, 10000, 1000000}, {1000000, 1000000, 1000000, 1000000, 1000000, 1000000}},
		{{1, 10, 100, 1000, 10000, 1000000}, {0, 0, 0, 0, 0, 2}}, {{1, 10, 100, 1000, 10000, 1000000}, {0, 0, 0, 0, 1, 1}},
	}
}

func TestPileTooGreat(t *testing.T) {
	for _, great := range tooGreat() {
		values, pile := great[0], great[1]
		got, ok := impl.PileValue(values, pile)
		wantNoNumber(t, call("PileValue", values, pile), got, ok)
		got, ok = impl.PileSteps(values, pile)
		wantNoNumber(t, call("PileSteps", values, pile), got, ok)
		for _, other := range [][]int{make([]int, len(values)), plainPileOf(values, 1), plainPileOf(values, 10), plainPileOf(values, greatest), pile} {
			list, ok := impl.PileSum(values, pile, other)
			wantNoPile(t, call("PileSum", values, pile, other), list, ok)
			list, ok = impl.PileSum(values, other, pile)
			wantNoPile(t, call("PileSum", values, other, pile), list, ok)
			list, ok = impl.PileLess(values, pile, other)
			wantNoPile(t, call("PileLess", values, pile, other), list, ok)
			list, ok = impl.PileLess(values, other, pile)
			wantNoPile(t, call("PileLess", values, other, pile), list, ok)
		}
		// These two do not ask for the value.
		got, ok = impl.PileSize(values, pile)
		wantNumber(t, call("PileSize", values, pile), got, ok, plainSize(pile))
		wantHeld(t, call("PilePlain", values, pile), impl.PilePlain(values, pile), plainlyPlain(values, pile))
	}
}

func TestPromise11(t *testing.T) {
	for _, values := range systems() {
		for _, pile := range somePiles(values) {
			value, ok := impl.PileValue(values, pile)
			if !ok {
				continue
			}
			plain, ok := impl.PileOf(values, value)
			if !ok || plainSize(plain) > plainSize(pile) {
				t.Errorf("%v: PileOf of the value of %v is %v, %v", values, pile, plain, ok)
			}
		}
	}
}

// Promise 12, and what PilePlain holds for.

func TestPilePlain(t *testing.T) {
	for _, known := range []struct {
		values, pile []int
		want         bool
	}{
		{[]int{1}, []int{0}, true}, {[]int{1}, []int{10}, true}, {[]int{1}, []int{1000000}, true},
		{[]int{1, 10}, []int{9, 0}, true}, {[]int{1, 10}, []int{10, 0}, false}, {[]int{1, 10}, []int{11, 0}, false}, {[]int{1, 10}, []int{9, 1000000}, true},
		{[]int{1, 10, 100}, []int{9, 9, 10}, true}, {[]int{1, 10, 100}, []int{0, 10, 0}, false}, {[]int{1, 10, 100}, []int{9, 10, 9}, false},
		{[]int{1, 10, 100}, []int{9, 9, 1000000}, true}, {[]int{1, 10, 100}, []int{10, 9, 1000000}, false}, {[]int{1, 10, 100}, []int{1000000, 0, 0}, false},
		{[]int{1, 1000000}, []int{999999, 0}, true}, {[]int{1, 1000000}, []int{1000000, 0}, false}, {[]int{1, 1000000}, []int{999999, 1000000}, true},
		{[]int{1, 2, 4, 8, 16, 32}, []int{1, 1, 1, 1, 1, 5}, true}, {[]int{1, 2, 4, 8, 16, 32}, []int{1, 1, 1, 1, 2, 5}, false}, {[]int{1, 2, 4, 8, 16, 32}, []int{2, 1, 1, 1, 1, 5}, false},
		{[]int{1, 12, 240}, []int{11, 19, 20}, true}, {[]int{1, 12, 240}, []int{11, 20, 20}, false}, {[]int{1, 12, 240}, []int{12, 19, 20}, false},
	} {
		wantHeld(t, call("PilePlain", known.values, known.pile), impl.PilePlain(known.values, known.pile), known.want)
	}
	for _, values := range systems() {
		for _, pile := range somePiles(values) {
			wantHeld(t, call("PilePlain", values, pile), impl.PilePlain(values, pile), plainlyPlain(values, pile))
		}
	}
}

// A plain pile, with just one number changed.
func TestPilePlainNear(t *testing.T) {
	for _, values := range systems() {
		for i := range len(values) - 1 {
			enough := values[i+1] / values[i]
			for _, number := range []int{enough - 1, enough, enough + 1, min(2*enough, greatest), greatest} {
				if number > greatest {
					continue
				}
				for _, n := range []int{0, 1, greatest - 1} {
					pile := plainPileOf(values, n)
					pile[i] = number
					wantHeld(t, call("PilePlain", values, pile), impl.PilePlain(values, pile), number < enough)
				}
			}
		}
	}
}

func TestPromise12(t *testing.T) {
	for _, values := range systems() {
		plain := 0
		for _, pile := range somePiles(values) {
			value, ok := impl.PileValue(values, pile)
			if !ok || !impl.PilePlain(values, pile) {
				continue
			}
			plain++
			got, ok := impl.PileOf(values, value)
			wantPile(t, call("PileOf", values, value), got, ok, pile)
			steps, ok := impl.PileSteps(values, pile)
			wantNumber(t, call("PileSteps", values, pile), steps, ok, 0)
		}
		if plain == 0 {
			t.Errorf("%v: no pile is plain", values)
		}
	}
}

// Promise 13, and what PileSum returns.

func checkSum(t *testing.T, values, a, b []int) {
	t.Helper()
	got, ok := impl.PileSum(values, a, b)
	if want := plainValue(values, a) + plainValue(values, b); want <= greatest {
		wantPile(t, call("PileSum", values, a, b), got, ok, plainPileOf(values, want))
	} else {
		wantNoPile(t, call("PileSum", values, a, b), got, ok)
	}
}

func TestPileSum(t *testing.T) {
	values := []int{1, 10, 100}
	got, ok := impl.PileSum(values, []int{5, 9, 0}, []int{5, 0, 0})
	wantPile(t, "PileSum of 95 and 5", got, ok, []int{0, 0, 1})
	got, ok = impl.PileSum(values, []int{14, 12, 0}, []int{0, 0, 0})
	wantPile(t, "PileSum of 134 and 0", got, ok, []int{4, 3, 1})
	got, ok = impl.PileSum(values, []int{9, 9, 9999}, []int{1, 0, 0})
	wantPile(t, "PileSum of 999999 and 1", got, ok, []int{0, 0, 10000})
	got, ok = impl.PileSum(values, []int{1000000, 0, 0}, []int{0, 0, 0})
	wantPile(t, "PileSum of 1000000 and 0", got, ok, []int{0, 0, 10000})
	got, ok = impl.PileSum(values, []int{0, 0, 5000}, []int{500000, 0, 0})
	wantPile(t, "PileSum of 500000 and 500000", got, ok, []int{0, 0, 10000})
	got, ok = impl.PileSum(values, []int{9, 9, 9999}, []int{2, 0, 0})
	wantNoPile(t, "PileSum of 999999 and 2", got, ok)
	got, ok = impl.PileSum(values, []int{1000000, 0, 0}, []int{1, 0, 0})
	wantNoPile(t, "PileSum of 1000000 and 1", got, ok)
	got, ok = impl.PileSum([]int{1}, []int{400000}, []int{600000})
	wantPile(t, "PileSum of 400000 and 600000", got, ok, []int{1000000})
	got, ok = impl.PileSum([]int{1}, []int{400001}, []int{600000})
	wantNoPile(t, "PileSum of 400001 and 600000", got, ok)
	for _, values := range systems() {
		eachPair(somePiles(values), func(a, b []int) { checkSum(t, values, a, b) })
		for _, n := range someNumbers(values) {
			checkSum(t, values, plainPileOf(values, n), plainPileOf(values, greatest-n))
			if n > 0 {
				checkSum(t, values, plainPileOf(values, n), plainPileOf(values, greatest-n+1))
			}
		}
	}
}

// eachPair visits some of the pairs of piles, each pile with itself among them.
func eachPair(piles [][]int, visit func(a, b []int)) {
	for i := range piles {
		visit(piles[i], piles[i])
		for j := i % 5; j < len(piles); j += 5 {
			visit(piles[i], piles[j])
		}
	}
}

func TestPromise13(t *testing.T) {
	for _, values := range systems() {
		eachPair(somePiles(values), func(a, b []int) {
			one, ok := impl.PileSum(values, a, b)
			other, same := impl.PileSum(values, b, a)
			if ok != same || !slices.Equal(one, other) {
				t.Errorf("%v: PileSum(%v, %v) is %v, %v, exchanged %v, %v", values, a, b, one, ok, other, same)
			}
			if ok && plainSize(one) > plainSize(a)+plainSize(b) {
				t.Errorf("%v: PileSum(%v, %v) is %v", values, a, b, one)
			}
		})
	}
}

// Promise 14, and what PileLess returns.

func checkLess(t *testing.T, values, a, b []int) {
	t.Helper()
	got, ok := impl.PileLess(values, a, b)
	m, n := plainValue(values, a), plainValue(values, b)
	if m <= greatest && n <= m {
		wantPile(t, call("PileLess", values, a, b), got, ok, plainPileOf(values, m-n))
	} else {
		wantNoPile(t, call("PileLess", values, a, b), got, ok)
	}
}

func TestPileLess(t *testing.T) {
	values := []int{1, 10, 100}
	got, ok := impl.PileLess(values, []int{0, 0, 1}, []int{1, 0, 0})
	wantPile(t, "PileLess of 100 and 1", got, ok, []int{9, 9, 0})
	got, ok = impl.PileLess(values, []int{0, 0, 1}, []int{0, 10, 0})
	wantPile(t, "PileLess of 100 and 100", got, ok, []int{0, 0, 0})
	got, ok = impl.PileLess(values, []int{0, 0, 1}, []int{1, 10, 0})
	wantNoPile(t, "PileLess of 100 and 101", got, ok)
	got, ok = impl.PileLess(values, []int{0, 0, 0}, []int{1, 0, 0})
	wantNoPile(t, "PileLess of 0 and 1", got, ok)
	got, ok = impl.PileLess(values, []int{0, 0, 0}, []int{0, 0, 0})
	wantPile(t, "PileLess of 0 and 0", got, ok, []int{0, 0, 0})
	got, ok = impl.PileLess(values, []int{1000000, 0, 0}, []int{0, 0, 0})
	wantPile(t, "PileLess of 1000000 and 0", got, ok, []int{0, 0, 10000})
	got, ok = impl.PileLess(values, []int{0, 0, 10000}, []int{1000000, 0, 0})
	wantPile(t, "PileLess of 1000000 and 1000000", got, ok, []int{0, 0, 0})
	got, ok = impl.PileLess([]int{1}, []int{7}, []int{7})
	wantPile(t, "PileLess of 7 and 7", got, ok, []int{0})
	got, ok = impl.PileLess([]int{1}, []int{7}, []int{8})
	wantNoPile(t, "PileLess of 7 and 8", got, ok)
	for _, values := range systems() {
		eachPair(somePiles(values), func(a, b []int) { checkLess(t, values, a, b) })
		for _, n := range someNumbers(values) {
			checkLess(t, values, plainPileOf(values, greatest), plainPileOf(values, n))
			checkLess(t, values, plainPileOf(values, n), plainPileOf(values, n))
			if n < greatest {
				checkLess(t, values, plainPileOf(values, n), plainPileOf(values, n+1))
			}
		}
	}
}

func TestPromise14(t *testing.T) {
	for _, values := range systems() {
		eachPair(somePiles(values), func(a, b []int) {
			less, ok := impl.PileLess(values, a, b)
			if !ok {
				return
			}
			value, ok := impl.PileValue(values, a)
			if !ok {
				t.Errorf("PileValue(%v, %v) fails", values, a)
			}
			plain, _ := impl.PileOf(values, value)
			sum, ok := impl.PileSum(values, less, b)
			wantPile(t, call("PileSum", values, less, b), sum, ok, plain)
		})
	}
}

// Promise 15, and what PileSize returns.

func TestPileSize(t *testing.T) {
	for _, known := range []struct {
		values, pile []int
		want         int
	}{
		{[]int{1}, []int{0}, 0}, {[]int{1}, []int{7}, 7}, {[]int{1}, []int{1000000}, 1000000},
		{[]int{1, 10, 100}, []int{0, 0, 0}, 0}, {[]int{1, 10, 100}, []int{14, 12, 3}, 29}, {[]int{1, 10, 100}, []int{0, 0, 1000000}, 1000000},
		{[]int{1, 1000000}, []int{1000000, 1000000}, 2000000}, {[]int{1, 2, 4, 8, 16, 32}, []int{1, 2, 3, 4, 5, 6}, 21},
		{[]int{1, 2, 4, 8, 16, 32}, []int{1000000, 1000000, 1000000, 1000000, 1000000, 1000000}, 6000000},
	} {
		got, ok := impl.PileSize(known.values, known.pile)
		wantNumber(t, call("PileSize", known.values, known.pile), got, ok, known.want)
	}
	for _, values := range systems() {
		for _, pile := range somePiles(values) {
			got, ok := impl.PileSize(values, pile)
			wantNumber(t, call("PileSize", values, pile), got, ok, plainSize(pile))
		}
	}
}

func TestPromise15(t *testing.T) {
	for _, values := range systems() {
		for _, pile := range somePiles(values) {
			value, ok := impl.PileValue(values, pile)
			if !ok {
				continue
			}
			size, ok := impl.PileSize(values, pile)
			if !ok || size > value || (size == 0) != (value == 0) {
				t.Errorf("PileSize(%v, %v): %d, %v; the value is %d", values, pile, size, ok, value)
			}
		}
	}
}

// Promise 16, and what PileSteps returns.

func TestPileSteps(t *testing.T) {
	for _, known := range []struct {
		values, pile []int
		want         int
	}{
		{[]int{1}, []int{0}, 0}, {[]int{1}, []int{1000000}, 0},
		{[]int{1, 10, 100}, []int{14, 12, 0}, 2}, {[]int{1, 10, 100}, []int{9, 9, 9}, 0}, {[]int{1, 10, 100}, []int{9, 9, 9990}, 0},
		{[]int{1, 10, 100}, []int{10, 9, 0}, 2}, {[]int{1, 10, 100}, []int{9, 10, 0}, 1}, {[]int{1, 10, 100}, []int{10, 0, 0}, 1}, {[]int{1, 10, 100}, []int{100, 0, 0}, 11},
		{[]int{1, 10, 100}, []int{1000000, 0, 0}, 110000}, {[]int{1, 10, 100}, []int{0, 100000, 0}, 10000}, {[]int{1, 10, 100}, []int{0, 0, 10000}, 0},
		{[]int{1, 1000000}, []int{1000000, 0}, 1}, {[]int{1, 1000000}, []int{999999, 0}, 0},
		{[]int{1, 2, 4, 8, 16, 32}, []int{2, 1, 1, 1, 1, 0}, 5}, {[]int{1, 2, 4, 8, 16, 32}, []int{1000000, 0, 0, 0, 0, 0}, 968750},
		{[]int{1, 12, 240}, []int{240, 0, 0}, 21},
	} {
		got, ok := impl.PileSteps(known.values, known.pile)
		wantNumber(t, call("PileSteps", known.values, known.pile), got, ok, known.want)
	}
	for _, values := range systems() {
		for _, pile := range somePiles(values) {
			got, ok := impl.PileSteps(values, pile)
			if plainValue(values, pile) <= greatest {
				wantNumber(t, call("PileSteps", values, pile), got, ok, plainSteps(values, pile))
			} else {
				wantNoNumber(t, call("PileSteps", values, pile), got, ok)
			}
		}
	}
}

// Exchanges made one by one, in several orders.
func TestPileStepsTried(t *testing.T) {
	chance := rand.New(rand.NewSource(2))
	for _, values := range systems() {
		for _, pile := range somePiles(values) {
			if plainSize(pile) > 2000 || plainValue(values, pile) > greatest {
				continue
			}
			for _, choose := range []func(int) int{func(int) int { return 0 }, func(n int) int { return n - 1 }, chance.Intn} {
				want, plain := triedSteps(values, pile, choose)
				got, ok := impl.PileSteps(values, pile)
				wantNumber(t, call("PileSteps", values, pile), got, ok, want)
				list, ok := impl.PileOf(values, plainValue(values, pile))
				wantPile(t, call("PileOf", values, plainValue(values, pile)), list, ok, plain)
			}
		}
	}
}

func TestPromise16(t *testing.T) {
	for _, values := range systems() {
		for _, pile := range somePiles(values) {
			steps, ok := impl.PileSteps(values, pile)
			if !ok {
				continue
			}
			if (steps == 0) != impl.PilePlain(values, pile) {
				t.Errorf("PileSteps(%v, %v) is %d, PilePlain %v", values, pile, steps, impl.PilePlain(values, pile))
			}
			value, _ := impl.PileValue(values, pile)
			plain, _ := impl.PileOf(values, value)
			before, _ := impl.PileSize(values, pile)
			behind, ok := impl.PileSize(values, plain)
			if !ok || before-behind < steps {
				t.Errorf("PileSteps(%v, %v) is %d, PileSize goes from %d to %d", values, pile, steps, before, behind)
			}
		}
	}
}

// Invalid arguments, for all functions that are given piles.

func checkNoPile(t *testing.T, values, list []int) {
	t.Helper()
	got, ok := impl.PileValue(values, list)
	wantNoNumber(t, call("PileValue", values, list), got, ok)
	got, ok = impl.PileSize(values, list)
	wantNoNumber(t, call("PileSize", values, list), got, ok)
	got, ok = impl.PileSteps(values, list)
	wantNoNumber(t, call("PileSteps", values, list), got, ok)
	wantHeld(t, call("PilePlain", values, list), impl.PilePlain(values, list), false)
}

func checkNoPair(t *testing.T, values, a, b []int) {
	t.Helper()
	got, ok := impl.PileSum(values, a, b)
	wantNoPile(t, call("PileSum", values, a, b), got, ok)
	got, ok = impl.PileLess(values, a, b)
	wantNoPile(t, call("PileLess", values, a, b), got, ok)
}

func TestPileInvalidPiles(t *testing.T) {
	for _, values := range systems() {
		for _, list := range noPiles(values) {
			checkNoPile(t, values, list)
			for _, n := range []int{0, 1, 500000, greatest} {
				checkNoPair(t, values, plainPileOf(values, n), list)
				checkNoPair(t, values, list, plainPileOf(values, n))
			}
			checkNoPair(t, values, list, list)
		}
	}
}

func TestPileInvalidSystems(t *testing.T) {
	for _, values := range noSystems() {
		some := make([]int, len(values))
		for i := range some {
			some[i] = i % 2
		}
		for _, list := range [][]int{make([]int, len(values)), some, nil, {0}, {1}, {0, 1}, {0, 0, 0, 0, 0, 0}} {
			checkNoPile(t, values, list)
			checkNoPair(t, values, list, list)
			checkNoPair(t, values, list, make([]int, len(list)))
		}
	}
}

// The general rules: arguments stay as they are, results are memory of their own, and no state is kept.

func TestPileArguments(t *testing.T) {
	for _, known := range systems() {
		values := withRoom(known)
		for _, pile := range somePiles(known) {
			a, b := withRoom(pile), withRoom(plainPileOf(known, 1))
			impl.PileIn(values)
			impl.PileOf(values, pile[0])
			impl.PileValue(values, a)
			impl.PilePlain(values, a)
			impl.PileSize(values, a)
			impl.PileSteps(values, a)
			impl.PileSum(values, a, b)
			impl.PileSum(values, b, a)
			impl.PileLess(values, a, b)
			impl.PileLess(values, b, a)
			stillAs(t, "values", values, known)
			stillAs(t, "first pile", a, pile)
			stillAs(t, "second pile", b, plainPileOf(known, 1))
		}
	}
	for _, known := range noSystems() {
		values := withRoom(known)
		impl.PileIn(values)
		impl.PileOf(values, 1)
		impl.PileSum(values, values, values)
		impl.PileLess(values, values, values)
		stillAs(t, "values", values, known)
	}
}

// overwrite fills a list and all room behind it.
func overwrite(list []int) {
	list = list[:cap(list)]
	for i := range list {
		list[i] = -99
	}
}

func TestPileResultsShareNothing(t *testing.T) {
	for _, known := range systems() {
		for _, n := range someNumbers(known) {
			values, a, b := withRoom(known), withRoom(plainPileOf(known, n)), withRoom(plainPileOf(known, 0))
			results := func() [][]int {
				of, _ := impl.PileOf(values, n)
				sum, _ := impl.PileSum(values, a, b)
				less, _ := impl.PileLess(values, a, b)
				return [][]int{of, sum, less}
			}
			kept := results()
			for _, list := range results() {
				overwrite(list)
			}
			stillAs(t, "values", values, known)
			stillAs(t, "first pile", a, plainPileOf(known, n))
			stillAs(t, "second pile", b, plainPileOf(known, 0))
			overwrite(values)
			overwrite(a)
			overwrite(b)
			for _, list := range kept {
				wantPile(t, call("kept result of", known, n), list, true, plainPileOf(known, n))
			}
		}
	}
}

// One list as several arguments.
func TestPileSameArguments(t *testing.T) {
	values := []int{1, 10, 100}
	got, ok := impl.PileValue(values, values)
	wantNumber(t, "PileValue", got, ok, 10101)
	list, ok := impl.PileSum(values, values, values)
	wantPile(t, "PileSum", list, ok, []int{2, 0, 202})
	list, ok = impl.PileLess(values, values, values)
	wantPile(t, "PileLess", list, ok, []int{0, 0, 0})
	steps, ok := impl.PileSteps(values, values)
	wantNumber(t, "PileSteps", steps, ok, 1)
	if !slices.Equal(values, []int{1, 10, 100}) {
		t.Errorf("the values have become %v", values)
	}
}

func TestPileNoState(t *testing.T) {
	var calls sync.WaitGroup
	for _, values := range systems() {
		calls.Go(func() {
			for _, pile := range somePiles(values) {
				steps, ok := impl.PileSteps(values, pile)
				impl.PileSteps([]int{1, 2, 4}, []int{7, 7, 7})
				impl.PileOf([]int{1, 2, 4}, 21)
				again, same := impl.PileSteps(values, pile)
				if steps != again || ok != same {
					t.Errorf("PileSteps(%v, %v): %d, %v and %d, %v", values, pile, steps, ok, again, same)
				}
			}
		})
	}
	calls.Wait()
}
