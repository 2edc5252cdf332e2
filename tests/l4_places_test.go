package tests

import (
	"math"
	"slices"
	"strings"
	"sync"
	"testing"

	"loop.example/peoplesnumerals/impl"
)

// Promise 24, and what PlaceOf returns.

func TestPlaceOf(t *testing.T) {
	known := map[int]string{
		0: ".", 1: "Y", 9: "YYYYYYYYY", 10: "<", 11: "<Y", 20: "<<", 50: "<<<<<", 59: "<<<<<YYYYYYYYY",
		60: "Y .", 61: "Y Y", 70: "Y <", 71: "Y <Y", 119: "Y <<<<<YYYYYYYYY", 120: "YY .", 600: "< .", 610: "< <", 3540: "<<<<<YYYYYYYYY .", 3599: "<<<<<YYYYYYYYY <<<<<YYYYYYYYY",
		3600: "Y . .", 3601: "Y . Y", 3660: "Y Y .", 3661: "Y Y Y", 3672: "Y Y <YY", 36000: "< . .", 215999: "<<<<<YYYYYYYYY <<<<<YYYYYYYYY <<<<<YYYYYYYYY",
		216000: "Y . . .", 216001: "Y . . Y", 216060: "Y . Y .", 219600: "Y Y . .", 219661: "Y Y Y Y", 216061: "Y . Y Y", 219601: "Y Y . Y", 219660: "Y Y Y .", 2160000: "< . . .",
		12744000: "<<<<<YYYYYYYYY . . .", 12959999: "<<<<<YYYYYYYYY <<<<<YYYYYYYYY <<<<<YYYYYYYYY <<<<<YYYYYYYYY", 12345678: "<<<<<YYYYYYY YYYYYYYYY <<Y <YYYYYYYY",
	}
	for n, want := range known {
		got, ok := impl.PlaceOf(n)
		wantText(t, call("PlaceOf", n), got, ok, want)
	}
	for _, n := range clayNumbers() {
		got, ok := impl.PlaceOf(n)
		wantText(t, call("PlaceOf", n), got, ok, plainClay(n))
	}
	for _, n := range outsideClay() {
		got, ok := impl.PlaceOf(n)
		wantNoText(t, call("PlaceOf", n), got, ok)
	}
	for n := -1; n >= -4000; n-- {
		got, ok := impl.PlaceOf(n)
		wantNoText(t, call("PlaceOf", n), got, ok)
		got, ok = impl.PlaceOf(greatestClay - n)
		wantNoText(t, call("PlaceOf", greatestClay-n), got, ok)
	}
}

func TestPromise24(t *testing.T) {
	for _, n := range clayNumbers() {
		text, ok := impl.PlaceOf(n)
		if !ok {
			t.Errorf("PlaceOf(%d) fails", n)
		}
		got, ok := impl.PlaceRead(text)
		wantNumber(t, quoted("PlaceRead", text), got, ok, n)
	}
}

// Promise 25, and what PlaceRead returns.

func checkClay(t *testing.T, s string) {
	t.Helper()
	got, ok := impl.PlaceRead(s)
	if want := plainClayRead(s); want >= 0 {
		wantNumber(t, quoted("PlaceRead", s), got, ok, want)
	} else {
		wantNoNumber(t, quoted("PlaceRead", s), got, ok)
	}
}

func TestPlaceRead(t *testing.T) {
	known := map[string]int{
		".": 0, "Y": 1, "YYYYYYYYY": 9, "<": 10, "<Y": 11, "<<<<<": 50, "<<<<<YYYYYYYYY": 59,
		"Y .": 60, "Y Y": 61, "Y <": 70, "< .": 600, "< Y": 601, "<Y .": 660, "<<<<<YYYYYYYYY <<<<<YYYYYYYYY": 3599,
		"Y . .": 3600, "Y . Y": 3601, "Y . <": 3610, "Y Y .": 3660, "Y Y Y": 3661, "<<<<<YYYYYYYYY <<<<<YYYYYYYYY <<<<<YYYYYYYYY": 215999,
		"Y . . .": 216000, "Y . . Y": 216001, "Y . Y .": 216060, "Y Y . .": 219600, "Y . Y Y": 216061, "Y Y . Y": 219601, "Y Y Y .": 219660, "Y Y Y Y": 219661,
		"<<<<<YYYYYYYYY <<<<<YYYYYYYYY <<<<<YYYYYYYYY <<<<<YYYYYYYYY": 12959999,
	}
	for s, want := range known {
		got, ok := impl.PlaceRead(s)
		wantNumber(t, quoted("PlaceRead", s), got, ok, want)
	}
	for _, s := range noClays() {
		got, ok := impl.PlaceRead(s)
		wantNoNumber(t, quoted("PlaceRead", s), got, ok)
	}
	for _, n := range clayNumbers() {
		s := plainClay(n)
		got, ok := impl.PlaceRead(s)
		wantNumber(t, quoted("PlaceRead", s), got, ok, n)
	}
}

// All texts of up to eight signs, dots and spaces, and all of one or two bytes.
func TestPlaceReadAll(t *testing.T) {
	for length := range 9 {
		eachTextOf("<Y. ", length, func(s string) { checkClay(t, s) })
	}
	for length := range 6 {
		eachTextOf("<Y. y>", length, func(s string) { checkClay(t, s) })
	}
	for a := range 256 {
		checkClay(t, string([]byte{byte(a)}))
		for b := range 256 {
			checkClay(t, string([]byte{byte(a), byte(b)}))
		}
	}
}

// Each number of tens and of ones at each place of a text, too many of them as well.
func TestPlaceReadDigits(t *testing.T) {
	for tens := range 8 {
		for ones := range 13 {
			digit := strings.Repeat("<", tens) + strings.Repeat("Y", ones)
			turned := strings.Repeat("Y", ones) + strings.Repeat("<", tens)
			for _, s := range []string{digit, turned} {
				for _, text := range []string{s, s + " Y", s + " .", "Y " + s, "Y . " + s, "Y " + s + " .", "Y Y Y " + s, s + " . . .", "Y Y Y Y " + s, s + " Y Y Y Y", ". " + s} {
					checkClay(t, text)
				}
			}
		}
	}
}

// Clay texts with one byte more, less or changed, or with two exchanged.
func TestPlaceReadNear(t *testing.T) {
	for n := 0; n <= greatestClay; n += 40009 {
		s := plainClay(n)
		for i := range len(s) + 1 {
			for _, sign := range []string{"<", "Y", ".", " ", "  ", " . ", "y", ">", "0", "\n", "\x00", "\xff"} {
				checkClay(t, s[:i]+sign+s[i:])
				if i < len(s) {
					checkClay(t, s[:i]+sign+s[i+1:])
				}
			}
			if i < len(s) {
				checkClay(t, s[:i]+s[i+1:])
			}
			if i+1 < len(s) {
				checkClay(t, s[:i]+s[i+1:i+2]+s[i:i+1]+s[i+2:])
			}
		}
	}
}

func TestPromise25(t *testing.T) {
	texts := append(noClays(), noPressed()...)
	for length := range 8 {
		eachTextOf("<Y. ", length, func(s string) { texts = append(texts, s) })
	}
	for _, n := range clayNumbers() {
		texts = append(texts, plainClay(n), " "+plainClay(n), ". "+plainClay(n), plainClay(n)+" .")
	}
	read := 0
	for _, s := range texts {
		n, ok := impl.PlaceRead(s)
		if !ok {
			continue
		}
		read++
		got, ok := impl.PlaceOf(n)
		wantText(t, call("PlaceOf", n), got, ok, s)
	}
	if read < len(clayNumbers()) {
		t.Errorf("PlaceRead succeeds for %d texts only", read)
	}
}

// Promise 26, and what PlaceReadings returns.

func TestPlaceReadings(t *testing.T) {
	known := map[string][]int{
		"Y": {1}, "<": {10}, "YY": {2, 61}, "<Y": {11, 601}, "Y<": {70}, "<<": {20, 610}, "Y<Y": {71, 4201}, "<Y<": {670, 36070}, "YYY": {3, 62, 121, 3661},
		"<<<": {30, 620, 1210, 36610}, "<YY": {12, 602, 661, 36061},
		"<Y<Y<Y": {40271}, "<Y<<Y<<": {40880}, "Y<Y<": {4270}, "Y<Y<Y": {4271},
		// These change from Y to < so often that they have more than three digits.
		"Y<Y<Y<": {}, "YY<Y<Y<": {}, "Y<Y<Y<Y": {}, "Y<Y<Y<<Y": {}, "<Y<Y<Y<": {}, "<Y<Y<Y<Y": {}, "Y<Y<Y<Y<": {},
	}
	for s, want := range known {
		got, ok := impl.PlaceReadings(s)
		wantPile(t, quoted("PlaceReadings", s), got, ok, want)
	}
}

func TestPlaceReadingsAll(t *testing.T) {
	readings := readingsByText()
	none, one := 0, 0
	eachPressed(func(s string) {
		got, ok := impl.PlaceReadings(s)
		wantPile(t, quoted("PlaceReadings", s), got, ok, readings[s])
		switch len(got) {
		case 0:
			none++
		case 1:
			one++
		}
	})
	if none == 0 || one == 0 {
		t.Errorf("%d pressed texts have no reading, %d have just one", none, one)
	}
}

func TestPlaceReadingsInvalid(t *testing.T) {
	for _, s := range noPressed() {
		got, ok := impl.PlaceReadings(s)
		wantNoPile(t, quoted("PlaceReadings", s), got, ok)
	}
	eachTextOf("<Y", 9, func(s string) {
		got, ok := impl.PlaceReadings(s)
		wantNoPile(t, quoted("PlaceReadings", s), got, ok)
	})
	for b := range 256 {
		sign := string([]byte{byte(b)})
		if sign == "<" || sign == "Y" {
			continue
		}
		for _, s := range []string{sign, sign + "Y", "Y" + sign, "<" + sign + "Y", "<<YYYYY" + sign, sign + "<<YYYYY"} {
			got, ok := impl.PlaceReadings(s)
			wantNoPile(t, quoted("PlaceReadings", s), got, ok)
		}
	}
}

func TestPromise26(t *testing.T) {
	eachPressed(func(s string) {
		readings, ok := impl.PlaceReadings(s)
		if !ok {
			t.Errorf("PlaceReadings(%q) fails", s)
		}
		for i, n := range readings {
			if i > 0 && n <= readings[i-1] || n < 1 || n > 215999 {
				t.Errorf("PlaceReadings(%q) has %d in %v", s, n, readings)
			}
			clay, ok := impl.PlaceOf(n)
			if !ok || strings.Contains(clay, ".") || strings.ReplaceAll(clay, " ", "") != s {
				t.Errorf("PlaceReadings(%q) has %d, PlaceOf of this is %q, %v", s, n, clay, ok)
			}
		}
	})
}

// Promise 27, and what PlaceDays returns.

func TestPlaceDays(t *testing.T) {
	known := map[int][]int{
		0: {0, 0, 0, 0, 0}, 1: {0, 0, 0, 0, 1}, 19: {0, 0, 0, 0, 19}, 20: {0, 0, 0, 1, 0}, 359: {0, 0, 0, 17, 19}, 360: {0, 0, 1, 0, 0}, 3661: {0, 0, 10, 3, 1},
		7199: {0, 0, 19, 17, 19}, 7200: {0, 1, 0, 0, 0}, 143999: {0, 19, 19, 17, 19}, 144000: {1, 0, 0, 0, 0}, 1872000: {13, 0, 0, 0, 0}, 2735999: {18, 19, 19, 17, 19}, 2736000: {19, 0, 0, 0, 0}, 2879998: {19, 19, 19, 17, 18}, 2879999: {19, 19, 19, 17, 19},
	}
	for n, want := range known {
		got, ok := impl.PlaceDays(n)
		wantPile(t, call("PlaceDays", n), got, ok, want)
	}
	for n := 0; n <= 2879999; n++ {
		got, ok := impl.PlaceDays(n)
		if !ok || !slices.Equal(got, plainDays(n)) {
			t.Errorf("PlaceDays(%d): %v, %v", n, got, ok)
		}
	}
	for _, n := range []int{math.MinInt, math.MinInt + 1, -2880000, -2879999, -360, -20, -2, -1, 2880000, 2880001, 2880019, 2880020, 3000000, 57600000, 1 << 32, math.MaxInt - 1, math.MaxInt} {
		got, ok := impl.PlaceDays(n)
		wantNoPile(t, call("PlaceDays", n), got, ok)
	}
}

func TestPromise27(t *testing.T) {
	for n := 0; n <= 2879999; n++ {
		days, ok := impl.PlaceDays(n)
		if !ok {
			t.Errorf("PlaceDays(%d) fails", n)
		}
		if got, ok := impl.PlaceFrom(days); !ok || got != n {
			t.Errorf("PlaceFrom(%v): %d, %v; expected %d", days, got, ok, n)
		}
	}
}

// Promise 28, and what PlaceFrom returns.

// eachDays calls visit with counts of days: all with some digits at each place, the least and the greatest ones among them.
func eachDays(visit func([]int)) {
	some := []int{0, 1, 9, 16, 17, 18, 19}
	for _, a := range some {
		for _, b := range some {
			for _, c := range some {
				for d := range 18 {
					for e := range 20 {
						visit([]int{a, b, c, d, e})
					}
				}
			}
		}
	}
}

func TestPlaceFrom(t *testing.T) {
	for _, known := range []struct {
		days []int
		want int
	}{
		{[]int{0, 0, 0, 0, 0}, 0}, {[]int{0, 0, 0, 0, 1}, 1}, {[]int{0, 0, 0, 0, 19}, 19}, {[]int{0, 0, 0, 1, 0}, 20}, {[]int{0, 0, 0, 17, 0}, 340}, {[]int{0, 0, 1, 0, 0}, 360}, {[]int{0, 0, 19, 0, 0}, 6840},
		{[]int{0, 1, 0, 0, 0}, 7200}, {[]int{0, 19, 0, 0, 0}, 136800}, {[]int{1, 0, 0, 0, 0}, 144000}, {[]int{19, 0, 0, 0, 0}, 2736000}, {[]int{1, 1, 1, 1, 1}, 151581}, {[]int{0, 0, 10, 3, 1}, 3661}, {[]int{9, 12, 11, 5, 18}, 1386478}, {[]int{19, 19, 19, 17, 19}, 2879999},
	} {
		got, ok := impl.PlaceFrom(known.days)
		wantNumber(t, call("PlaceFrom", known.days), got, ok, known.want)
	}
	eachDays(func(days []int) {
		if got, ok := impl.PlaceFrom(days); !ok || got != plainFrom(days) {
			t.Errorf("PlaceFrom(%v): %d, %v", days, got, ok)
		}
	})
	for _, list := range noDays() {
		got, ok := impl.PlaceFrom(list)
		wantNoNumber(t, call("PlaceFrom", list), got, ok)
	}
}

func TestPromise28(t *testing.T) {
	places := []int{20, 20, 20, 18, 20}
	eachDays(func(days []int) {
		n, ok := impl.PlaceFrom(days)
		if !ok {
			t.Errorf("PlaceFrom(%v) fails", days)
		}
		if again, ok := impl.PlaceDays(n); !ok || !slices.Equal(again, days) {
			t.Errorf("PlaceDays(%d): %v, %v; expected %v", n, again, ok, days)
		}
		if got, ok := impl.PlaceNumber(places, days); !ok || got != n {
			t.Errorf("PlaceNumber of %v: %d, %v; expected %d", days, got, ok, n)
		}
	})
}

// Promise 29, and what PlaceDigits returns.

func TestPlaceDigits(t *testing.T) {
	for _, known := range []struct {
		places []int
		n      int
		want   []int
	}{
		{[]int{2}, 0, []int{0}}, {[]int{2}, 1, []int{1}}, {[]int{100}, 99, []int{99}}, {[]int{10, 10}, 42, []int{4, 2}}, {[]int{24, 60}, 1439, []int{23, 59}}, {[]int{24, 60, 60}, 3661, []int{1, 1, 1}}, {[]int{7, 24, 60, 60}, 604799, []int{6, 23, 59, 59}},
		{[]int{2, 100}, 199, []int{1, 99}}, {[]int{100, 2}, 199, []int{99, 1}}, {[]int{100, 2}, 3, []int{1, 1}}, {[]int{2, 100}, 3, []int{0, 3}}, {[]int{2, 3, 5}, 17, []int{1, 0, 2}}, {[]int{20, 20, 20, 18, 20}, 3661, []int{0, 0, 10, 3, 1}},
		{[]int{10, 10, 10, 10, 10, 10}, 7, []int{0, 0, 0, 0, 0, 7}}, {[]int{100, 100, 100, 100, 100, 100}, 999999999999, []int{99, 99, 99, 99, 99, 99}}, {[]int{100, 100, 100, 100, 100, 100}, 10203040506, []int{1, 2, 3, 4, 5, 6}},
	} {
		got, ok := impl.PlaceDigits(known.places, known.n)
		wantPile(t, call("PlaceDigits", known.places, known.n), got, ok, known.want)
	}
	for _, places := range somePlaces() {
		for _, n := range placeNumbers(places) {
			got, ok := impl.PlaceDigits(places, n)
			wantPile(t, call("PlaceDigits", places, n), got, ok, plainDigits(places, n))
		}
	}
}

func TestPlaceDigitsInvalid(t *testing.T) {
	for _, places := range somePlaces() {
		product := plainProduct(places)
		for _, n := range []int{math.MinInt, math.MinInt + 1, -product, 1 - product, -2, -1, product, product + 1, 2*product - 1, 2 * product, 100 * product, 1 << 60, math.MaxInt - 1, math.MaxInt} {
			got, ok := impl.PlaceDigits(places, n)
			wantNoPile(t, call("PlaceDigits", places, n), got, ok)
		}
	}
	for _, list := range noPlaces() {
		for _, n := range []int{math.MinInt, -1, 0, 1, 2, 100, math.MaxInt} {
			got, ok := impl.PlaceDigits(list, n)
			wantNoPile(t, call("PlaceDigits", list, n), got, ok)
		}
	}
}

// eachSmallPlaces calls visit with all lists of up to four places of small numbers.
func eachSmallPlaces(visit func([]int)) {
	var try func(list []int)
	try = func(list []int) {
		if len(list) > 0 {
			visit(list)
		}
		if len(list) == 4 {
			return
		}
		for place := 2; place <= 5; place++ {
			try(append(slices.Clone(list), place))
		}
	}
	try(nil)
}

// All digits in turn, as a counter that is moved on by one shows them.
func TestPlaceDigitsCounted(t *testing.T) {
	eachSmallPlaces(func(places []int) {
		counter := make([]int, len(places))
		for n := range plainProduct(places) {
			digits, ok := impl.PlaceDigits(places, n)
			wantPile(t, call("PlaceDigits", places, n), digits, ok, counter)
			got, ok := impl.PlaceNumber(places, counter)
			wantNumber(t, call("PlaceNumber", places, counter), got, ok, n)
			for i := len(places) - 1; i >= 0; i-- {
				counter[i]++
				if counter[i] < places[i] {
					break
				}
				counter[i] = 0
			}
		}
		got, ok := impl.PlaceDigits(places, plainProduct(places))
		wantNoPile(t, call("PlaceDigits of the product of", places), got, ok)
	})
}

func TestPromise29(t *testing.T) {
	for _, places := range somePlaces() {
		for _, n := range placeNumbers(places) {
			digits, ok := impl.PlaceDigits(places, n)
			if !ok || len(digits) != len(places) {
				t.Fatalf("PlaceDigits(%v, %d): %v, %v", places, n, digits, ok)
			}
			for i, digit := range digits {
				if digit < 0 || digit >= places[i] {
					t.Errorf("PlaceDigits(%v, %d) is %v", places, n, digits)
				}
			}
			got, ok := impl.PlaceNumber(places, digits)
			wantNumber(t, call("PlaceNumber", places, digits), got, ok, n)
		}
	}
}

// Promise 30, and what PlaceNumber returns.

func TestPlaceNumber(t *testing.T) {
	for _, known := range []struct {
		places, digits []int
		want           int
	}{
		{[]int{2}, []int{0}, 0}, {[]int{2}, []int{1}, 1}, {[]int{100}, []int{99}, 99}, {[]int{10, 10}, []int{4, 2}, 42}, {[]int{24, 60}, []int{23, 59}, 1439}, {[]int{2, 100}, []int{1, 0}, 100}, {[]int{100, 2}, []int{1, 0}, 2},
		{[]int{2, 3, 5}, []int{1, 2, 4}, 29}, {[]int{2, 3, 5}, []int{1, 0, 0}, 15}, {[]int{2, 3, 5}, []int{0, 1, 0}, 5}, {[]int{20, 20, 20, 18, 20}, []int{0, 0, 10, 3, 1}, 3661},
		{[]int{100, 100, 100, 100, 100, 100}, []int{99, 99, 99, 99, 99, 99}, 999999999999}, {[]int{100, 100, 100, 100, 100, 100}, []int{1, 0, 0, 0, 0, 0}, 10000000000}, {[]int{2, 2, 2, 2, 2, 2}, []int{1, 0, 1, 0, 1, 0}, 42},
	} {
		got, ok := impl.PlaceNumber(known.places, known.digits)
		wantNumber(t, call("PlaceNumber", known.places, known.digits), got, ok, known.want)
	}
	for _, places := range somePlaces() {
		for _, n := range placeNumbers(places) {
			digits := plainDigits(places, n)
			got, ok := impl.PlaceNumber(places, digits)
			wantNumber(t, call("PlaceNumber", places, digits), got, ok, plainPlaceNumber(places, digits))
		}
	}
}

// areDigits reports whether a list has digits to some places.
func areDigits(places, list []int) bool {
	if len(list) != len(places) {
		return false
	}
	for i, digit := range list {
		if digit < 0 || digit >= places[i] {
			return false
		}
	}
	return true
}

func TestPlaceNumberInvalid(t *testing.T) {
	for _, places := range somePlaces() {
		for _, list := range noDigits(places) {
			// What is too great for one place may fit another one.
			if areDigits(places, list) {
				continue
			}
			got, ok := impl.PlaceNumber(places, list)
			wantNoNumber(t, call("PlaceNumber", places, list), got, ok)
		}
	}
	for _, places := range noPlaces() {
		for _, list := range [][]int{make([]int, len(places)), slices.Repeat([]int{1}, len(places)), nil, {0}, {1}, {0, 0}, {1, 1, 1, 1, 1, 1}, places} {
			got, ok := impl.PlaceNumber(places, list)
			wantNoNumber(t, call("PlaceNumber", places, list), got, ok)
		}
	}
}

func TestPromise30(t *testing.T) {
	told := 0
	for _, places := range somePlaces() {
		lists := append(noDigits(places), make([]int, len(places)), digitsLess(places))
		for _, n := range placeNumbers(places) {
			lists = append(lists, plainDigits(places, n))
		}
		for _, digits := range lists {
			n, ok := impl.PlaceNumber(places, digits)
			if !ok {
				continue
			}
			told++
			got, ok := impl.PlaceDigits(places, n)
			wantPile(t, call("PlaceDigits", places, n), got, ok, digits)
		}
	}
	if told == 0 {
		t.Error("PlaceNumber succeeds for no digits")
	}
}

// The general rules: arguments stay as they are, results are memory of their own, and no state is kept.

func TestPlaceArguments(t *testing.T) {
	for _, known := range append(somePlaces(), noPlaces()...) {
		for _, list := range [][]int{make([]int, len(known)), slices.Repeat([]int{1}, len(known)), slices.Repeat([]int{-1}, len(known)), {1, 2, 3, 4, 5}} {
			places, digits := withRoom(known), withRoom(list)
			impl.PlaceDigits(places, 1)
			impl.PlaceDigits(places, math.MaxInt)
			impl.PlaceNumber(places, digits)
			impl.PlaceNumber(places, places)
			impl.PlaceFrom(digits)
			stillAs(t, "places", places, known)
			stillAs(t, "digits", digits, list)
		}
	}
	for _, list := range append(noDays(), greatestDay()) {
		days := withRoom(list)
		impl.PlaceFrom(days)
		stillAs(t, "days", days, list)
	}
}

func TestPlaceResultsShareNothing(t *testing.T) {
	readings := readingsByText()
	eachPressed(func(s string) {
		kept, _ := impl.PlaceReadings(s)
		other, _ := impl.PlaceReadings(s)
		overwrite(other)
		wantPile(t, quoted("PlaceReadings", s), kept, true, readings[s])
		again, ok := impl.PlaceReadings(s)
		wantPile(t, quoted("PlaceReadings", s), again, ok, readings[s])
	})
	for n := 0; n <= 2879999; n += 997 {
		kept, _ := impl.PlaceDays(n)
		other, _ := impl.PlaceDays(n)
		overwrite(other)
		wantPile(t, call("PlaceDays", n), kept, true, plainDays(n))
		again, ok := impl.PlaceDays(n)
		wantPile(t, call("PlaceDays", n), again, ok, plainDays(n))
	}
	for _, known := range somePlaces() {
		for _, n := range placeNumbers(known) {
			places := withRoom(known)
			kept, _ := impl.PlaceDigits(places, n)
			other, _ := impl.PlaceDigits(places, n)
			overwrite(other)
			stillAs(t, "places", places, known)
			overwrite(places)
			wantPile(t, call("PlaceDigits", known, n), kept, true, plainDigits(known, n))
		}
	}
}

func TestPlaceNoState(t *testing.T) {
	readings := readingsByText()
	var calls sync.WaitGroup
	for worker := range 4 {
		calls.Go(func() {
			eachPressed(func(s string) {
				impl.PlaceReadings("YYYYYYYY"[:1+worker])
				got, ok := impl.PlaceReadings(s)
				wantPile(t, quoted("PlaceReadings", s), got, ok, readings[s])
				n := len(s)*1000 + worker
				impl.PlaceOf(greatestClay - n)
				impl.PlaceOf(-n)
				text, ok := impl.PlaceOf(n)
				wantText(t, call("PlaceOf", n), text, ok, plainClay(n))
			})
		})
	}
	calls.Wait()
}
