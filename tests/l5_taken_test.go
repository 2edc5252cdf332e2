package tests

import (
	"math"
	"slices"
	"sync"
	"testing"

	"loop.example/peoplesnumerals/impl"
)

// Promise 31, and what TakenOf returns.

func checkShort(t *testing.T, values []int, n int, want []int) {
	t.Helper()
	got, ok := impl.TakenOf(values, n)
	wantPile(t, call("TakenOf", values, n), got, ok, want)
}

func TestTakenOf(t *testing.T) {
	for _, known := range []struct {
		values []int
		n      int
		want   []int
	}{
		{[]int{1}, 0, []int{0}}, {[]int{1}, 1, []int{1}}, {[]int{1}, 999999, []int{999999}}, {[]int{1}, 1000000, []int{1000000}},
		{[]int{1, 10, 100, 1000}, 0, []int{0, 0, 0, 0}}, {[]int{1, 10, 100, 1000}, 1, []int{1, 0, 0, 0}}, {[]int{1, 10, 100, 1000}, 5, []int{5, 0, 0, 0}}, {[]int{1, 10, 100, 1000}, 6, []int{-4, 1, 0, 0}},
		{[]int{1, 10, 100, 1000}, 9, []int{-1, 1, 0, 0}}, {[]int{1, 10, 100, 1000}, 19, []int{-1, 2, 0, 0}}, {[]int{1, 10, 100, 1000}, 99, []int{-1, 0, 1, 0}}, {[]int{1, 10, 100, 1000}, 999, []int{-1, 0, 0, 1}},
		{[]int{1, 10, 100, 1000}, 15, []int{5, 1, 0, 0}}, {[]int{1, 10, 100, 1000}, 45, []int{5, 4, 0, 0}}, {[]int{1, 10, 100, 1000}, 65, []int{-5, -3, 1, 0}}, {[]int{1, 10, 100, 1000}, 95, []int{-5, 0, 1, 0}},
		{[]int{1, 10, 100, 1000}, 999999, []int{-1, 0, 0, 1000}}, {[]int{1, 10, 100, 1000}, 1000000, []int{0, 0, 0, 1000}},
		{[]int{1, 1000000}, 500000, []int{500000, 0}}, {[]int{1, 1000000}, 500001, []int{-499999, 1}}, {[]int{1, 1000000}, 499999, []int{499999, 0}}, {[]int{1, 1000000}, 999999, []int{-1, 1}}, {[]int{1, 1000000}, 1000000, []int{0, 1}},
		{[]int{1, 999999}, 1000000, []int{1, 1}}, {[]int{1, 999999}, 999999, []int{0, 1}}, {[]int{1, 999999}, 500001, []int{-499998, 1}},
		{[]int{1, 2, 4, 8, 16, 32}, 7, []int{-1, 0, 0, 1, 0, 0}}, {[]int{1, 2, 4, 8, 16, 32}, 63, []int{-1, 0, 0, 0, 0, 2}}, {[]int{1, 2, 4, 8, 16, 32}, 1000000, []int{0, 0, 0, 0, 0, 31250}},
	} {
		checkShort(t, known.values, known.n, known.want)
	}
}

// Numbers with several signed piles of the least size.
func TestTakenOfEqual(t *testing.T) {
	for _, known := range []struct {
		values      []int
		want, other []int
	}{
		{[]int{1, 3}, []int{2, 0}, []int{-1, 1}}, {[]int{1, 3}, []int{2, 5}, []int{-1, 6}}, {[]int{1, 999999}, []int{500000, 0}, []int{-499999, 1}},
		{[]int{1, 10, 100}, []int{5, 5, 0}, []int{-5, -4, 1}}, {[]int{1, 10, 100, 1000}, []int{0, 5, 5, 0}, []int{0, -5, -4, 1}}, {[]int{1, 10, 100, 1000}, []int{5, 5, 4, 0}, []int{-5, -4, 5, 0}},
		{[]int{1, 2, 4}, []int{1, 1, 0}, []int{-1, 0, 1}}, {[]int{1, 2, 4}, []int{1, 1, 249999}, []int{-1, 0, 250000}}, {[]int{1, 2, 4, 8}, []int{0, 1, 1, 0}, []int{0, -1, 0, 1}},
		{[]int{1, 2, 4, 8, 16, 32}, []int{1, 1, 0, 1, 0, 0}, []int{-1, 0, -1, 0, 1, 0}}, {[]int{1, 2, 4, 8, 16, 32}, []int{1, 1, 0, 1, 0, 0}, []int{-1, 0, 1, 1, 0, 0}},
		{[]int{1, 3, 9}, []int{2, 1, 0}, []int{-1, 2, 0}}, {[]int{1, 3, 9}, []int{2, 1, 0}, []int{-1, -1, 1}}, {[]int{1, 3, 9}, []int{1, 2, 0}, []int{-2, 0, 1}}, {[]int{1, 3, 9}, []int{1, 2, 0}, []int{1, -1, 1}},
	} {
		n := plainValue(known.values, known.want)
		if plainValue(known.values, known.other) != n || signedSize(known.want) != signedSize(known.other) || !signedAhead(known.want, known.other) {
			t.Errorf("%v and %v do not tell what is tested", known.want, known.other)
		}
		checkShort(t, known.values, n, known.want)
	}
}

// Short piles held against all signed piles of small numbers.
func TestTakenOfAll(t *testing.T) {
	for _, small := range smallSystems() {
		for n, want := range shortPilesTo(small.values, small.most) {
			checkShort(t, small.values, n, want)
		}
	}
}

func TestTakenOfMiddles(t *testing.T) {
	for _, values := range takenSystems() {
		for _, n := range middleNumbers(values) {
			checkShort(t, values, n, plainShortPile(values, n))
		}
	}
}

func TestTakenOfOthers(t *testing.T) {
	for _, values := range takenSystems() {
		for _, n := range someNumbers(values) {
			checkShort(t, values, n, plainShortPile(values, n))
		}
		for n := 0; n <= greatest; n += 3989 {
			checkShort(t, values, n, plainShortPile(values, n))
		}
	}
}

func TestTakenInvalidNumbers(t *testing.T) {
	for _, values := range takenSystems() {
		for _, n := range noTakenNumbers() {
			got, ok := impl.TakenOf(values, n)
			wantNoPile(t, call("TakenOf", values, n), got, ok)
			saved, ok := impl.TakenSaved(values, n)
			wantNoNumber(t, call("TakenSaved", values, n), saved, ok)
			most, ok := impl.TakenMost(values, n)
			wantNoNumber(t, call("TakenMost", values, n), most, ok)
		}
	}
}

func TestPromise31(t *testing.T) {
	for _, values := range takenSystems() {
		numbers := append(someNumbers(values), middleNumbers(values)...)
		for n := 0; n <= greatest; n += 997 {
			numbers = append(numbers, n)
		}
		for _, n := range numbers {
			pile, ok := impl.TakenOf(values, n)
			if !ok || len(pile) != len(values) {
				t.Fatalf("TakenOf(%v, %d): %v, %v", values, n, pile, ok)
			}
			got, ok := impl.TakenValue(values, pile)
			wantNumber(t, call("TakenValue", values, pile), got, ok, n)
			for i := range len(values) - 1 {
				if withoutSign(pile[i]) >= values[i+1]/values[i] {
					t.Errorf("TakenOf(%v, %d) is %v", values, n, pile)
				}
			}
		}
	}
}

// Promise 32, and what TakenValue returns.

func checkTakenValue(t *testing.T, values, pile []int) {
	t.Helper()
	got, ok := impl.TakenValue(values, pile)
	if want := plainValue(values, pile); withoutSign(want) <= greatest {
		wantNumber(t, call("TakenValue", values, pile), got, ok, want)
	} else {
		wantNoNumber(t, call("TakenValue", values, pile), got, ok)
	}
}

func TestTakenValue(t *testing.T) {
	for _, known := range []struct {
		values, pile []int
		want         int
	}{
		{[]int{1}, []int{0}, 0}, {[]int{1}, []int{-7}, -7}, {[]int{1}, []int{1000000}, 1000000}, {[]int{1}, []int{-1000000}, -1000000},
		{[]int{1, 10, 100, 1000}, []int{-1, 0, 1, 0}, 99}, {[]int{1, 10, 100, 1000}, []int{1, 0, -1, 0}, -99}, {[]int{1, 10, 100, 1000}, []int{0, 0, 0, 0}, 0}, {[]int{1, 10, 100, 1000}, []int{-10, 1, 0, 0}, 0}, {[]int{1, 10, 100, 1000}, []int{20, -1, 0, 0}, 10},
		{[]int{1, 10}, []int{-1000000, 200000}, 1000000}, {[]int{1, 10}, []int{1000000, -200000}, -1000000}, {[]int{1, 10}, []int{-999999, 200000 - 1}, 999991}, {[]int{1, 10}, []int{1000000, -100000}, 0}, {[]int{1, 10}, []int{-1000000, 100000}, 0},
		{[]int{1, 1000000}, []int{0, 1}, 1000000}, {[]int{1, 1000000}, []int{0, -1}, -1000000}, {[]int{1, 1000000}, []int{-1000000, 2}, 1000000}, {[]int{1, 1000000}, []int{1000000, -2}, -1000000}, {[]int{1, 1000000}, []int{-1, 1}, 999999}, {[]int{1, 1000000}, []int{1, -1}, -999999}, {[]int{1, 1000000}, []int{1000000, -1}, 0},
		{[]int{1, 10, 100}, []int{1000000, 1000000, -110000}, 0}, {[]int{1, 10, 100}, []int{-1000000, -1000000, 110000}, 0}, {[]int{1, 10, 100}, []int{1000000, 1000000, -100000}, 1000000},
		{[]int{1, 500000, 1000000}, []int{0, 1000000, -500000}, 0}, {[]int{1, 500000, 1000000}, []int{0, 1000000, -499999}, 1000000}, {[]int{1, 500000, 1000000}, []int{-500000, -1, 2}, 1000000},
		{[]int{1, 2, 4, 8, 16, 32}, []int{1, -2, 3, -4, 5, -6}, -135},
	} {
		got, ok := impl.TakenValue(known.values, known.pile)
		wantNumber(t, call("TakenValue", known.values, known.pile), got, ok, known.want)
	}
	for _, values := range takenSystems() {
		for _, pile := range someSigned(values) {
			checkTakenValue(t, values, pile)
		}
	}
}

// Signed piles of which just the value is too great or too small.
func TestTakenValueOutside(t *testing.T) {
	for _, outside := range []struct{ values, pile []int }{
		{[]int{1, 10}, []int{1, 100000}}, {[]int{1, 10}, []int{-1, -100000}}, {[]int{1, 10}, []int{1000000, 1}}, {[]int{1, 10}, []int{-1000000, -1}}, {[]int{1, 10}, []int{-999999, 200000}}, {[]int{1, 10}, []int{999999, -200000}}, {[]int{1, 10}, []int{0, 100001}}, {[]int{1, 10}, []int{0, -100001}},
		{[]int{1, 1000000}, []int{1, 1}}, {[]int{1, 1000000}, []int{-1, -1}}, {[]int{1, 1000000}, []int{-999999, 2}}, {[]int{1, 1000000}, []int{999999, -2}}, {[]int{1, 1000000}, []int{0, 2}}, {[]int{1, 1000000}, []int{0, -2}},
		{[]int{1, 1000000}, []int{1000000, 1000000}}, {[]int{1, 1000000}, []int{-1000000, -1000000}}, {[]int{1, 1000000}, []int{1000000, -1000000}}, {[]int{1, 1000000}, []int{-1000000, 1000000}},
		{[]int{1, 500000, 1000000}, []int{1, 1000000, -499999}}, {[]int{1, 500000, 1000000}, []int{-1, -1000000, 499999}}, {[]int{1, 500000, 1000000}, []int{1000000, 1000000, 1000000}}, {[]int{1, 500000, 1000000}, []int{-1000000, -1000000, -1000000}},
		{[]int{1, 31250, 62500, 125000, 500000, 1000000}, []int{1000000, 1000000, 1000000, 1000000, 1000000, 1000000}}, {[]int{1, 31250, 62500, 125000, 500000, 1000000}, []int{-1000000, -1000000, -1000000, -1000000, -1000000, -1000000}},
	} {
		got, ok := impl.TakenValue(outside.values, outside.pile)
		wantNoNumber(t, call("TakenValue", outside.values, outside.pile), got, ok)
		size, ok := impl.TakenSize(outside.values, outside.pile)
		wantNumber(t, call("TakenSize", outside.values, outside.pile), size, ok, signedSize(outside.pile))
		turned, ok := impl.TakenTurned(outside.values, outside.pile)
		wantPile(t, call("TakenTurned", outside.values, outside.pile), turned, ok, plainlyTurned(outside.pile))
	}
}

// Each value at the edges is met by signed piles in which much is added and taken off again.
func TestTakenValueEdges(t *testing.T) {
	for _, values := range takenSystems() {
		met := map[int]bool{}
		for _, pile := range someSigned(values) {
			met[plainValue(values, pile)] = true
		}
		for _, n := range []int{-greatest, -999999, 0, 999999, greatest} {
			if !met[n] {
				t.Errorf("%v: no signed pile has the value %d", values, n)
			}
		}
		for _, n := range []int{-1000001, 1000001} {
			if len(values) > 1 && !met[n] {
				t.Errorf("%v: no signed pile has the value %d", values, n)
			}
		}
	}
}

// All short signed piles.
func TestTakenValueSmall(t *testing.T) {
	for _, values := range takenSystems() {
		for size := range 6 {
			eachSigned(len(values), size, func(pile []int) { checkTakenValue(t, values, pile) })
		}
	}
}

func checkPromise32(t *testing.T, values, pile []int) {
	t.Helper()
	value, ok := impl.TakenValue(values, pile)
	if !ok || value < 0 {
		return
	}
	short, ok := impl.TakenOf(values, value)
	if !ok {
		t.Errorf("TakenOf(%v, %d) fails", values, value)
	}
	least, ok := impl.TakenSize(values, short)
	size, same := impl.TakenSize(values, pile)
	if !ok || !same || least > size {
		t.Errorf("%v: TakenSize(%v) is %d, %v, of the short pile %v %d, %v", values, pile, size, same, short, least, ok)
	}
}

func TestPromise32(t *testing.T) {
	for _, values := range takenSystems() {
		for _, pile := range someSigned(values) {
			checkPromise32(t, values, pile)
		}
		for size := range 8 {
			eachSigned(len(values), size, func(pile []int) { checkPromise32(t, values, pile) })
		}
	}
}

// Promise 33, and what TakenSize returns.

func TestTakenSize(t *testing.T) {
	for _, known := range []struct {
		values, pile []int
		want         int
	}{
		{[]int{1}, []int{0}, 0}, {[]int{1}, []int{7}, 7}, {[]int{1}, []int{-7}, 7}, {[]int{1}, []int{1000000}, 1000000}, {[]int{1}, []int{-1000000}, 1000000},
		{[]int{1, 10, 100}, []int{0, 0, 0}, 0}, {[]int{1, 10, 100}, []int{-1, 2, 0}, 3}, {[]int{1, 10, 100}, []int{1, -1, 0}, 2}, {[]int{1, 10, 100}, []int{-10, 1, 0}, 11}, {[]int{1, 10, 100}, []int{-14, -12, -3}, 29},
		{[]int{1, 1000000}, []int{1000000, -1000000}, 2000000}, {[]int{1, 2, 4, 8, 16, 32}, []int{1, -2, 3, -4, 5, -6}, 21},
		{[]int{1, 2, 4, 8, 16, 32}, []int{-1000000, -1000000, -1000000, -1000000, -1000000, -1000000}, 6000000},
	} {
		got, ok := impl.TakenSize(known.values, known.pile)
		wantNumber(t, call("TakenSize", known.values, known.pile), got, ok, known.want)
	}
	for _, values := range takenSystems() {
		for _, pile := range someSigned(values) {
			got, ok := impl.TakenSize(values, pile)
			wantNumber(t, call("TakenSize", values, pile), got, ok, signedSize(pile))
		}
	}
}

func TestPromise33(t *testing.T) {
	for _, values := range takenSystems() {
		for _, pile := range someSigned(values) {
			size, ok := impl.TakenSize(values, pile)
			if !ok {
				t.Errorf("TakenSize(%v, %v) fails", values, pile)
			}
			turned, ok := impl.TakenTurned(values, pile)
			if !ok {
				t.Errorf("TakenTurned(%v, %v) fails", values, pile)
			}
			got, ok := impl.TakenSize(values, turned)
			wantNumber(t, call("TakenSize", values, turned), got, ok, size)
		}
	}
}

// Promise 34, and what TakenSaved returns.

func TestTakenSaved(t *testing.T) {
	for _, known := range []struct {
		values  []int
		n, want int
	}{
		{[]int{1}, 0, 0}, {[]int{1}, 999999, 0}, {[]int{1}, 1000000, 0},
		{[]int{1, 10, 100, 1000}, 0, 0}, {[]int{1, 10, 100, 1000}, 1, 0}, {[]int{1, 10, 100, 1000}, 5, 0}, {[]int{1, 10, 100, 1000}, 6, 1}, {[]int{1, 10, 100, 1000}, 9, 7}, {[]int{1, 10, 100, 1000}, 19, 7},
		{[]int{1, 10, 100, 1000}, 55, 0}, {[]int{1, 10, 100, 1000}, 65, 2}, {[]int{1, 10, 100, 1000}, 999, 25}, {[]int{1, 10, 100, 1000}, 999999, 25}, {[]int{1, 10, 100, 1000}, 1000000, 0},
		{[]int{1, 1000000}, 500000, 0}, {[]int{1, 1000000}, 500001, 1}, {[]int{1, 1000000}, 999999, 999997}, {[]int{1, 1000000}, 1000000, 0}, {[]int{1, 999999}, 500000, 0},
		{[]int{1, 2, 4, 8, 16, 32}, 3, 0}, {[]int{1, 2, 4, 8, 16, 32}, 31, 3}, {[]int{1, 2, 4, 8, 16, 32}, 63, 3},
	} {
		got, ok := impl.TakenSaved(known.values, known.n)
		wantNumber(t, call("TakenSaved", known.values, known.n), got, ok, known.want)
	}
	for _, values := range takenSystems() {
		for _, n := range append(someNumbers(values), middleNumbers(values)...) {
			got, ok := impl.TakenSaved(values, n)
			wantNumber(t, call("TakenSaved", values, n), got, ok, plainSize(plainPileOf(values, n))-signedSize(plainShortPile(values, n)))
		}
	}
}

func TestPromise34(t *testing.T) {
	for _, values := range takenSystems() {
		numbers := append(someNumbers(values), middleNumbers(values)...)
		for n := 0; n <= greatest; n += 1009 {
			numbers = append(numbers, n)
		}
		for _, n := range numbers {
			plain, _ := impl.PileOf(values, n)
			size, _ := impl.PileSize(values, plain)
			short, _ := impl.TakenOf(values, n)
			least, _ := impl.TakenSize(values, short)
			got, ok := impl.TakenSaved(values, n)
			wantNumber(t, call("TakenSaved", values, n), got, ok, size-least)
			if got < 0 {
				t.Errorf("TakenSaved(%v, %d) is %d", values, n, got)
			}
		}
	}
}

// Promise 35, and what TakenMost returns.

// mostNumbers has the numbers for which TakenMost is asked.
func mostNumbers() []int {
	numbers := []int{350, 454, 455, 456, 555, 999, 1000, 1001, 1454, 1455, 1456, 1555, greatestMost - 1, greatestMost}
	for n := range 301 {
		numbers = append(numbers, n)
	}
	return numbers
}

func TestTakenMost(t *testing.T) {
	for _, known := range []struct {
		values  []int
		n, want int
	}{
		{[]int{1}, 0, 0}, {[]int{1}, 1, 1}, {[]int{1}, 1999, 1999}, {[]int{1}, 2000, 2000},
		{[]int{1, 10, 100, 1000}, 0, 0}, {[]int{1, 10, 100, 1000}, 1, 1}, {[]int{1, 10, 100, 1000}, 5, 5}, {[]int{1, 10, 100, 1000}, 9, 5}, {[]int{1, 10, 100, 1000}, 14, 5}, {[]int{1, 10, 100, 1000}, 15, 15}, {[]int{1, 10, 100, 1000}, 54, 45},
		{[]int{1, 10, 100, 1000}, 55, 55}, {[]int{1, 10, 100, 1000}, 100, 55}, {[]int{1, 10, 100, 1000}, 554, 455}, {[]int{1, 10, 100, 1000}, 999, 455}, {[]int{1, 10, 100, 1000}, 1454, 455}, {[]int{1, 10, 100, 1000}, 1455, 1455}, {[]int{1, 10, 100, 1000}, 2000, 1455},
		{[]int{1, 1000000}, 2000, 2000}, {[]int{1, 2}, 2000, 1999}, {[]int{1, 2}, 1999, 1999}, {[]int{1, 2}, 1998, 1997}, {[]int{1, 3}, 6, 5}, {[]int{1, 3}, 2, 2}, {[]int{1, 3}, 4, 2},
	} {
		got, ok := impl.TakenMost(known.values, known.n)
		wantNumber(t, call("TakenMost", known.values, known.n), got, ok, known.want)
	}
	for _, values := range takenSystems() {
		most := make([]int, greatestMost+1)
		largest := 0
		for n := 1; n <= greatestMost; n++ {
			most[n] = most[n-1]
			if size := signedSize(plainShortPile(values, n)); size > largest {
				most[n], largest = n, size
			}
		}
		for _, n := range mostNumbers() {
			got, ok := impl.TakenMost(values, n)
			wantNumber(t, call("TakenMost", values, n), got, ok, most[n])
		}
	}
}

func TestTakenMostInvalid(t *testing.T) {
	for _, values := range takenSystems() {
		for _, n := range []int{math.MinInt, -2001, -2000, -1, 2001, 2002, 3000, 20000, 999999, 1000000, 1 << 32, math.MaxInt} {
			got, ok := impl.TakenMost(values, n)
			wantNoNumber(t, call("TakenMost", values, n), got, ok)
		}
	}
}

func TestPromise35(t *testing.T) {
	for _, values := range takenSystems() {
		sizes := make([]int, 301)
		for n := range sizes {
			short, _ := impl.TakenOf(values, n)
			sizes[n], _ = impl.TakenSize(values, short)
		}
		for n := range sizes {
			most, ok := impl.TakenMost(values, n)
			if !ok || most < 0 || most > n || sizes[most] < slices.Max(sizes[:n+1]) || slices.Index(sizes, sizes[most]) < most {
				t.Errorf("TakenMost(%v, %d): %d, %v", values, n, most, ok)
			}
		}
	}
}

// Promise 36, and what TakenTurned returns.

func TestTakenTurned(t *testing.T) {
	for _, known := range []struct{ values, pile, want []int }{
		{[]int{1}, []int{0}, []int{0}}, {[]int{1}, []int{7}, []int{-7}}, {[]int{1}, []int{-7}, []int{7}}, {[]int{1}, []int{1000000}, []int{-1000000}}, {[]int{1}, []int{-1000000}, []int{1000000}},
		{[]int{1, 10}, []int{0, 0}, []int{0, 0}}, {[]int{1, 10}, []int{-1, 2}, []int{1, -2}}, {[]int{1, 10}, []int{0, -2}, []int{0, 2}}, {[]int{1, 10}, []int{1000000, 1000000}, []int{-1000000, -1000000}}, {[]int{1, 10}, []int{15, 0}, []int{-15, 0}},
		{[]int{1, 2, 4, 8, 16, 32}, []int{1, -2, 0, -4, 5, -6}, []int{-1, 2, 0, 4, -5, 6}},
	} {
		got, ok := impl.TakenTurned(known.values, known.pile)
		wantPile(t, call("TakenTurned", known.values, known.pile), got, ok, known.want)
	}
	for _, values := range takenSystems() {
		for _, pile := range someSigned(values) {
			got, ok := impl.TakenTurned(values, pile)
			wantPile(t, call("TakenTurned", values, pile), got, ok, plainlyTurned(pile))
		}
	}
}

func TestPromise36(t *testing.T) {
	for _, values := range takenSystems() {
		for _, pile := range someSigned(values) {
			turned, ok := impl.TakenTurned(values, pile)
			if !ok {
				t.Errorf("TakenTurned(%v, %v) fails", values, pile)
			}
			back, ok := impl.TakenTurned(values, turned)
			wantPile(t, call("TakenTurned", values, turned), back, ok, pile)
			value, told := impl.TakenValue(values, pile)
			got, ok := impl.TakenValue(values, turned)
			if ok != told || got != -value {
				t.Errorf("%v: TakenValue(%v) is %d, %v, of %v %d, %v", values, pile, value, told, turned, got, ok)
			}
		}
	}
}

// Noughts alone, and what they lead to.
func TestTakenNoughts(t *testing.T) {
	for _, values := range takenSystems() {
		noughts := make([]int, len(values))
		checkShort(t, values, 0, noughts)
		value, ok := impl.TakenValue(values, noughts)
		wantNumber(t, call("TakenValue", values, noughts), value, ok, 0)
		size, ok := impl.TakenSize(values, noughts)
		wantNumber(t, call("TakenSize", values, noughts), size, ok, 0)
		turned, ok := impl.TakenTurned(values, noughts)
		wantPile(t, call("TakenTurned", values, noughts), turned, ok, noughts)
		saved, ok := impl.TakenSaved(values, 0)
		wantNumber(t, call("TakenSaved", values, 0), saved, ok, 0)
		most, ok := impl.TakenMost(values, 0)
		wantNumber(t, call("TakenMost", values, 0), most, ok, 0)
	}
}

// Invalid arguments, for all functions.

func checkNoSigned(t *testing.T, values, list []int) {
	t.Helper()
	got, ok := impl.TakenValue(values, list)
	wantNoNumber(t, call("TakenValue", values, list), got, ok)
	got, ok = impl.TakenSize(values, list)
	wantNoNumber(t, call("TakenSize", values, list), got, ok)
	turned, ok := impl.TakenTurned(values, list)
	wantNoPile(t, call("TakenTurned", values, list), turned, ok)
}

func TestTakenInvalidPiles(t *testing.T) {
	for _, values := range takenSystems() {
		for _, list := range noSigned(values) {
			checkNoSigned(t, values, list)
		}
	}
	checkNoSigned(t, []int{1, 10}, []int{1000001, -1})
	checkNoSigned(t, []int{1, 10}, []int{-1000001, 1})
	checkNoSigned(t, []int{1, 10}, []int{1, 1000001})
	checkNoSigned(t, []int{1, 10}, []int{1, -1000001})
}

func TestTakenInvalidSystems(t *testing.T) {
	for _, values := range noSystems() {
		for _, n := range []int{math.MinInt, -1, 0, 1, 10, 2000, 2001, 1000000, 1000001, math.MaxInt} {
			got, ok := impl.TakenOf(values, n)
			wantNoPile(t, call("TakenOf", values, n), got, ok)
			saved, ok := impl.TakenSaved(values, n)
			wantNoNumber(t, call("TakenSaved", values, n), saved, ok)
			most, ok := impl.TakenMost(values, n)
			wantNoNumber(t, call("TakenMost", values, n), most, ok)
		}
		for _, list := range [][]int{make([]int, len(values)), slices.Repeat([]int{-1}, len(values)), nil, {0}, {1}, {-1}, {0, -1}, {0, 0, 0, 0, 0, 0}, {math.MinInt}} {
			checkNoSigned(t, values, list)
		}
	}
}

// The general rules: arguments stay as they are, results are memory of their own, and no state is kept.

func TestTakenArguments(t *testing.T) {
	tryNumbers := func(known []int) {
		values := withRoom(known)
		for _, n := range []int{-1, 0, 7, 300, 2000, 2001, 999999, greatest, greatest + 1} {
			impl.TakenOf(values, n)
			impl.TakenSaved(values, n)
			impl.TakenMost(values, n)
		}
		stillAs(t, "values", values, known)
	}
	tryPile := func(known, list []int) {
		values, pile := withRoom(known), withRoom(list)
		impl.TakenValue(values, pile)
		impl.TakenSize(values, pile)
		impl.TakenTurned(values, pile)
		stillAs(t, "values", values, known)
		stillAs(t, "pile", pile, list)
	}
	for _, known := range takenSystems() {
		tryNumbers(known)
		for _, list := range append(someSigned(known), noSigned(known)...) {
			tryPile(known, list)
		}
	}
	for _, known := range noSystems() {
		tryNumbers(known)
		tryPile(known, make([]int, len(known)))
		tryPile(known, slices.Repeat([]int{-1}, len(known)))
	}
}

func TestTakenResultsShareNothing(t *testing.T) {
	for _, known := range takenSystems() {
		for _, n := range someNumbers(known) {
			short := plainShortPile(known, n)
			values, pile := withRoom(known), withRoom(plainlyTurned(short))
			results := func() [][]int {
				of, _ := impl.TakenOf(values, n)
				turned, _ := impl.TakenTurned(values, pile)
				return [][]int{of, turned}
			}
			kept := results()
			for _, list := range results() {
				overwrite(list)
			}
			stillAs(t, "values", values, known)
			stillAs(t, "pile", pile, plainlyTurned(short))
			overwrite(values)
			overwrite(pile)
			for _, list := range kept {
				wantPile(t, call("kept result of", known, n), list, true, short)
			}
		}
	}
}

// One list as both arguments.
func TestTakenSameArguments(t *testing.T) {
	values := []int{1, 10, 100}
	value, ok := impl.TakenValue(values, values)
	wantNumber(t, "TakenValue", value, ok, 10101)
	size, ok := impl.TakenSize(values, values)
	wantNumber(t, "TakenSize", size, ok, 111)
	turned, ok := impl.TakenTurned(values, values)
	wantPile(t, "TakenTurned", turned, ok, []int{-1, -10, -100})
	if !slices.Equal(values, []int{1, 10, 100}) {
		t.Errorf("the values have become %v", values)
	}
}

func TestTakenNoState(t *testing.T) {
	var calls sync.WaitGroup
	for _, values := range takenSystems() {
		calls.Go(func() {
			for _, n := range someNumbers(values) {
				short, ok := impl.TakenOf(values, n)
				impl.TakenOf([]int{1, 2, 4}, 21)
				impl.TakenValue([]int{1, 2, 4}, []int{7, -7, greatest + 1})
				impl.TakenMost([]int{1, 3, 9}, 40)
				again, same := impl.TakenOf(values, n)
				if ok != same || !slices.Equal(short, again) {
					t.Errorf("TakenOf(%v, %d): %v, %v and %v, %v", values, n, short, ok, again, same)
				}
			}
		})
	}
	calls.Wait()
}
