package tests

import (
	"math"
	"slices"
	"sync"
	"testing"

	"loop.example/peoplesnumerals/impl"
)

// Promise 43, and what StrokeOf returns.

func TestStrokeOf(t *testing.T) {
	for n, want := range map[int]int{
		0: 0, 1: 1, 2: 2, 3: 4, 4: 8, 5: 9, 6: 16, 7: 17, 8: 18, 9: 19,
		10: 32, 11: 33, 15: 41, 20: 64, 30: 128, 40: 256, 50: 288, 60: 512, 70: 544, 80: 576, 90: 608, 99: 627,
		100: 1024, 101: 1025, 110: 1056, 500: 9216, 900: 19456, 999: 20083, 1000: 32768, 1001: 32769, 1010: 32800, 5000: 294912, 6000: 524288, 9000: 622592,
		1234: 34952, 9998: 642674, 9999: 642675,
	} {
		got, ok := impl.StrokeOf(n)
		wantNumber(t, call("StrokeOf", n), got, ok, want)
	}
	for n := 0; n <= greatestStem; n++ {
		got, ok := impl.StrokeOf(n)
		wantNumber(t, call("StrokeOf", n), got, ok, plainSign(n))
	}
}

func TestPromise43(t *testing.T) {
	for n := 0; n <= greatestStem; n++ {
		sign, ok := impl.StrokeOf(n)
		if !ok {
			t.Errorf("StrokeOf(%d) fails", n)
		}
		got, ok := impl.StrokeRead(sign)
		wantNumber(t, call("StrokeRead", sign), got, ok, n)
	}
}

// Numbers without a stem, for all functions that are given one number.
func TestStrokesOutside(t *testing.T) {
	numbers := outsideStem()
	for n := 1; n <= 2000; n++ {
		numbers = append(numbers, -n, greatestStem+n)
	}
	for _, n := range numbers {
		sign, ok := impl.StrokeOf(n)
		wantNoNumber(t, call("StrokeOf", n), sign, ok)
		count, ok := impl.StrokeCount(n)
		wantNoNumber(t, call("StrokeCount", n), count, ok)
		turned, ok := impl.StrokeTurned(n)
		wantNoNumber(t, call("StrokeTurned", n), turned, ok)
		mirror, ok := impl.StrokeMirror(n)
		wantNoNumber(t, call("StrokeMirror", n), mirror, ok)
	}
}

// Promise 44, and what StrokeRead returns.

func TestStrokeRead(t *testing.T) {
	for sign, want := range map[int]int{
		0: 0, 1: 1, 2: 2, 4: 3, 8: 4, 9: 5, 16: 6, 17: 7, 18: 8, 19: 9, 32: 10, 33: 11, 41: 15, 288: 50, 627: 99, 1024: 100, 1025: 101, 20083: 999,
		32768: 1000, 32769: 1001, 34952: 1234, 622592: 9000, 642674: 9998, 642675: 9999,
	} {
		got, ok := impl.StrokeRead(sign)
		wantNumber(t, call("StrokeRead", sign), got, ok, want)
	}
	for _, sign := range noSigns() {
		got, ok := impl.StrokeRead(sign)
		wantNoNumber(t, call("StrokeRead", sign), got, ok)
	}
}

// All sums of strokes, whether they are signs or not, and as many numbers on both sides of them.
func TestStrokeReadAll(t *testing.T) {
	numbers := numbersBySign()
	for sign := -allSigns; sign < 2*allSigns; sign++ {
		got, ok := impl.StrokeRead(sign)
		if want, isSign := numbers[sign]; isSign {
			wantNumber(t, call("StrokeRead", sign), got, ok, want)
		} else if ok || got != 0 {
			t.Errorf("StrokeRead(%d): %d, %v; expected 0, false", sign, got, ok)
		}
	}
}

// Strokes that are no digit at each place, with each digit at the three other ones.
func TestStrokeReadNoDigit(t *testing.T) {
	for _, strokes := range strokesOfNoDigit() {
		for place, unit := range []int{1, 32, 1024, 32768} {
			for n := 0; n <= greatestStem; n++ {
				if stemDigits(n)[place] != 0 {
					continue
				}
				sign := plainSign(n) + strokes*unit
				if got, ok := impl.StrokeRead(sign); ok || got != 0 {
					t.Errorf("StrokeRead(%d): %d, %v; expected 0, false", sign, got, ok)
				}
			}
		}
	}
}

func TestStrokeReadGreatest(t *testing.T) {
	greatest, ok := impl.StrokeOf(greatestStem)
	wantNumber(t, call("StrokeOf", greatestStem), greatest, ok, 19+32*19+1024*19+32768*19)
	got, ok := impl.StrokeRead(greatest)
	wantNumber(t, call("StrokeRead", greatest), got, ok, greatestStem)
	got, ok = impl.StrokeRead(greatest - 1)
	wantNumber(t, call("StrokeRead", greatest-1), got, ok, greatestStem-1)
	got, ok = impl.StrokeRead(greatest + 1)
	wantNoNumber(t, call("StrokeRead", greatest+1), got, ok)
}

func TestPromise44(t *testing.T) {
	read := 0
	check := func(sign int) {
		n, ok := impl.StrokeRead(sign)
		if !ok {
			return
		}
		read++
		got, ok := impl.StrokeOf(n)
		wantNumber(t, call("StrokeOf", n), got, ok, sign)
	}
	for sign := -40000; sign < allSigns+40000; sign++ {
		check(sign)
	}
	if read != greatestStem+1 {
		t.Errorf("StrokeRead succeeds for %d signs", read)
	}
	for _, sign := range noSigns() {
		check(sign)
	}
}

// Promise 45, and what StrokeCount returns.

func TestStrokeCount(t *testing.T) {
	for n, want := range map[int]int{
		0: 0, 1: 1, 2: 1, 3: 1, 4: 1, 5: 2, 6: 1, 7: 2, 8: 2, 9: 3, 10: 1, 15: 3, 50: 2, 90: 3, 99: 6, 100: 1, 101: 2, 500: 2, 999: 9, 1000: 1, 1001: 2, 1234: 4, 5678: 7, 9000: 3, 9998: 11, 9999: 12,
	} {
		got, ok := impl.StrokeCount(n)
		wantNumber(t, call("StrokeCount", n), got, ok, want)
	}
	for n := 0; n <= greatestStem; n++ {
		got, ok := impl.StrokeCount(n)
		wantNumber(t, call("StrokeCount", n), got, ok, len(plainStrokes(n)))
	}
}

func TestPromise45(t *testing.T) {
	for n := 0; n <= greatestStem; n++ {
		count, ok := impl.StrokeCount(n)
		if !ok || count < 0 || count > mostStrokes {
			t.Errorf("StrokeCount(%d): %d, %v", n, count, ok)
		}
		turned, _ := impl.StrokeTurned(n)
		got, ok := impl.StrokeCount(turned)
		wantNumber(t, call("StrokeCount of StrokeTurned", n), got, ok, count)
		mirror, _ := impl.StrokeMirror(n)
		got, ok = impl.StrokeCount(mirror)
		wantNumber(t, call("StrokeCount of StrokeMirror", n), got, ok, count)
	}
}

// Promise 46, and what StrokeTurned returns.

func TestStrokeTurned(t *testing.T) {
	for n, want := range map[int]int{
		0: 0, 1: 1000, 5: 5000, 9: 9000, 10: 100, 12: 2100, 99: 9900, 100: 10, 101: 1010, 110: 110, 123: 3210, 999: 9990, 1000: 1, 1001: 1001, 1200: 21, 1230: 321, 1234: 4321,
		2552: 2552, 6070: 706, 7007: 7007, 9000: 9, 9090: 909, 9998: 8999, 9999: 9999,
	} {
		got, ok := impl.StrokeTurned(n)
		wantNumber(t, call("StrokeTurned", n), got, ok, want)
	}
	same := 0
	for n := 0; n <= greatestStem; n++ {
		got, ok := impl.StrokeTurned(n)
		wantNumber(t, call("StrokeTurned", n), got, ok, plainTurned(n))
		if got == n {
			same++
		}
	}
	if same != 100 {
		t.Errorf("%d numbers are the same turned", same)
	}
}

func TestPromise46(t *testing.T) {
	for n := 0; n <= greatestStem; n++ {
		turned, ok := impl.StrokeTurned(n)
		if !ok {
			t.Errorf("StrokeTurned(%d) fails", n)
		}
		back, ok := impl.StrokeTurned(turned)
		wantNumber(t, call("StrokeTurned", turned), back, ok, n)
		mirror, ok := impl.StrokeMirror(n)
		if !ok {
			t.Errorf("StrokeMirror(%d) fails", n)
		}
		mirrorOfTurned, one := impl.StrokeMirror(turned)
		turnedOfMirror, other := impl.StrokeTurned(mirror)
		if !one || !other || mirrorOfTurned != turnedOfMirror {
			t.Errorf("%d turned and in a mirror: %d, %v; in a mirror and turned: %d, %v", n, mirrorOfTurned, one, turnedOfMirror, other)
		}
	}
}

// Promise 47, and what StrokeMirror returns.

func TestStrokeMirror(t *testing.T) {
	for n, want := range map[int]int{
		0: 0, 1: 10, 5: 50, 9: 90, 10: 1, 12: 21, 99: 99, 100: 1000, 101: 1010, 110: 1001, 123: 1032, 999: 9099, 1000: 100, 1001: 110, 1100: 1100, 1200: 2100, 1230: 2103, 1234: 2143,
		1199: 1199, 2552: 5225, 6070: 607, 7007: 770, 7733: 7733, 9000: 900, 9090: 909, 9998: 9989, 9999: 9999,
	} {
		got, ok := impl.StrokeMirror(n)
		wantNumber(t, call("StrokeMirror", n), got, ok, want)
	}
	same := 0
	for n := 0; n <= greatestStem; n++ {
		got, ok := impl.StrokeMirror(n)
		wantNumber(t, call("StrokeMirror", n), got, ok, plainMirror(n))
		if got == n {
			same++
		}
	}
	if same != 100 {
		t.Errorf("%d numbers are the same in a mirror", same)
	}
}

func TestPromise47(t *testing.T) {
	for n := 0; n <= greatestStem; n++ {
		mirror, ok := impl.StrokeMirror(n)
		if !ok {
			t.Errorf("StrokeMirror(%d) fails", n)
		}
		back, ok := impl.StrokeMirror(mirror)
		wantNumber(t, call("StrokeMirror", mirror), back, ok, n)
	}
}

// Promise 48, and what StrokeMany returns.

func TestStrokeMany(t *testing.T) {
	sum := 0
	for k, want := range []int{1, 20, 162, 684, 1639, 2376, 2324, 1608, 807, 292, 74, 12, 1} {
		got, ok := impl.StrokeMany(k)
		wantNumber(t, call("StrokeMany", k), got, ok, want)
		sum += got
	}
	if sum != greatestStem+1 {
		t.Errorf("StrokeMany of all numbers of strokes: %d", sum)
	}
	counts := make([]int, mostStrokes+1)
	for n := 0; n <= greatestStem; n++ {
		counts[len(plainStrokes(n))]++
	}
	for k, want := range counts {
		got, ok := impl.StrokeMany(k)
		wantNumber(t, call("StrokeMany", k), got, ok, want)
	}
}

func TestStrokeManyInvalid(t *testing.T) {
	numbers := []int{13, 14, 20, 24, 100, 9999, 10000, 1 << 32, 1<<32 + 1, 1<<32 + 12, math.MaxInt - 1, math.MaxInt, -1, -2, -11, -12, -13, -10000, math.MinInt, math.MinInt + 1, math.MinInt + 12}
	for _, k := range numbers {
		got, ok := impl.StrokeMany(k)
		wantNoNumber(t, call("StrokeMany", k), got, ok)
	}
}

func TestPromise48(t *testing.T) {
	ways := plainWays()
	if len(ways) != mostStrokes+1 {
		t.Fatalf("ways for %d numbers of strokes", len(ways))
	}
	for k, want := range ways {
		got, ok := impl.StrokeMany(k)
		wantNumber(t, call("StrokeMany", k), got, ok, want)
	}
}

// Promise 49, and what StrokeNear returns.

func TestStrokeNear(t *testing.T) {
	for _, known := range []struct{ m, n, want int }{
		{0, 0, 0}, {0, 1, 1}, {1, 2, 2}, {1, 5, 1}, {4, 5, 1}, {5, 9, 3}, {6, 9, 2}, {7, 9, 1}, {8, 9, 1}, {7, 8, 2}, {5, 7, 2}, {1, 9, 2}, {3, 9, 4}, {0, 9, 3}, {3, 4, 2},
		{1, 10, 2}, {1, 100, 2}, {1, 1000, 2}, {10, 50, 1}, {600, 900, 2}, {9, 90, 6}, {99, 0, 6}, {1000, 5000, 1}, {1001, 1000, 1}, {9998, 9999, 1}, {0, 9998, 11}, {0, 9999, 12},
		{3333, 9999, 16}, {4444, 9999, 16}, {1234, 4321, 8}, {1234, 1239, 4}, {1111, 9999, 8}, {5555, 7777, 8}, {9999, 9999, 0}, {1234, 1234, 0}, {10, 11, 1}, {999, 1000, 10},
	} {
		got, ok := impl.StrokeNear(known.m, known.n)
		wantNumber(t, call("StrokeNear", known.m, known.n), got, ok, known.want)
		got, ok = impl.StrokeNear(known.n, known.m)
		wantNumber(t, call("StrokeNear", known.n, known.m), got, ok, known.want)
	}
	numbers := someStemNumbers()
	for _, m := range numbers {
		for _, n := range numbers {
			got, ok := impl.StrokeNear(m, n)
			wantNumber(t, call("StrokeNear", m, n), got, ok, plainNear(m, n))
		}
	}
}

// Each two digits at each place, with equal digits at the other ones.
func TestStrokeNearDigits(t *testing.T) {
	for _, unit := range []int{1, 10, 100, 1000} {
		for a := range 10 {
			for b := range 10 {
				for _, others := range []int{0, 1, 5, 9} {
					beside := others * (1111 - unit)
					m, n := a*unit+beside, b*unit+beside
					got, ok := impl.StrokeNear(m, n)
					wantNumber(t, call("StrokeNear", m, n), got, ok, plainNear(a, b))
				}
			}
		}
	}
}

func TestStrokeNearInvalid(t *testing.T) {
	outside := outsideStem()
	for _, m := range outside {
		for _, n := range []int{0, 1, 5, 1234, 9998, greatestStem} {
			got, ok := impl.StrokeNear(m, n)
			wantNoNumber(t, call("StrokeNear", m, n), got, ok)
			got, ok = impl.StrokeNear(n, m)
			wantNoNumber(t, call("StrokeNear", n, m), got, ok)
		}
		for _, n := range outside {
			got, ok := impl.StrokeNear(m, n)
			wantNoNumber(t, call("StrokeNear", m, n), got, ok)
		}
	}
}

func checkPromise49(t *testing.T, m, n int) {
	t.Helper()
	near, ok := impl.StrokeNear(m, n)
	exchanged, same := impl.StrokeNear(n, m)
	if !ok || !same || near != exchanged {
		t.Errorf("StrokeNear(%d, %d) is %d, %v, exchanged %d, %v", m, n, near, ok, exchanged, same)
	}
	if near < 0 || (near == 0) != (m == n) {
		t.Errorf("StrokeNear(%d, %d) is %d", m, n, near)
	}
	ofOne, _ := impl.StrokeCount(m)
	ofOther, _ := impl.StrokeCount(n)
	if near > ofOne+ofOther {
		t.Errorf("StrokeNear(%d, %d) is %d, with %d and %d strokes", m, n, near, ofOne, ofOther)
	}
}

func TestPromise49(t *testing.T) {
	for n := 0; n <= greatestStem; n++ {
		checkPromise49(t, n, n)
		checkPromise49(t, n, greatestStem-n)
		checkPromise49(t, n, plainTurned(n))
		checkPromise49(t, n, plainMirror(n))
		checkPromise49(t, n, 0)
	}
	numbers := someStemNumbers()
	for _, m := range numbers {
		for _, n := range numbers {
			checkPromise49(t, m, n)
		}
	}
}

// The general rules: no state between calls, also if they are made at the same time.

// strokeAnswers has what all functions return for a number, or for one and another one.
func strokeAnswers(n int) []int {
	var answers []int
	add := func(number int, ok bool) {
		if ok {
			number++
		}
		answers = append(answers, number)
	}
	add(impl.StrokeOf(n))
	add(impl.StrokeRead(n))
	add(impl.StrokeCount(n))
	add(impl.StrokeTurned(n))
	add(impl.StrokeMirror(n))
	add(impl.StrokeNear(n, 1234))
	add(impl.StrokeMany(n % 15))
	return answers
}

func TestStrokesNoState(t *testing.T) {
	numbers := append(someStemNumbers(), outsideStem()...)
	first := make([][]int, len(numbers))
	for i, n := range numbers {
		first[i] = strokeAnswers(n)
	}
	var calls sync.WaitGroup
	for worker := range 4 {
		calls.Go(func() {
			for k := range numbers {
				i := (k*7 + worker*31) % len(numbers)
				if again := strokeAnswers(numbers[i]); !slices.Equal(again, first[i]) {
					t.Errorf("%d: %v, and again %v", numbers[i], first[i], again)
				}
			}
		})
	}
	calls.Wait()
}

func TestStrokeManyAgain(t *testing.T) {
	ways := plainWays()
	for range 20 {
		for k := mostStrokes + 1; k >= -1; k-- {
			got, ok := impl.StrokeMany(k)
			if k >= 0 && k < len(ways) {
				wantNumber(t, call("StrokeMany", k), got, ok, ways[k])
			} else {
				wantNoNumber(t, call("StrokeMany", k), got, ok)
			}
		}
	}
}
