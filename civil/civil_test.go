package civil_test

import (
	"fmt"
	"math"
	"math/big"
	"math/rand"
	"testing"
	"time"

	"noonmark/api"
	"noonmark/civil"
)

func is(t *testing.T, what, got, want string) {
	t.Helper()
	if got != want {
		t.Errorf("%s: %s, not %s", what, got, want)
	}
}

// same is for long loops: it stops at the first fault.
func same(t *testing.T, what, got, want string) {
	t.Helper()
	if got != want {
		t.Fatalf("%s: %s, not %s", what, got, want)
	}
}

// told: what a call answered, as a text.
func told(x ...any) string {
	s := ""
	for i, v := range x {
		if k, ok := v.(api.Kind); ok {
			v = int(k)
		}
		if i > 0 {
			s += " "
		}
		s += fmt.Sprint(v)
	}
	return s
}

func days(y, m, d int) string {
	n, k := civil.Days(y, m, d)
	return told(n, k)
}

func date(n int64) string {
	y, m, d, k := civil.Date(n)
	return told(y, m, d, k)
}

func clock(s int64) string {
	day, sec := civil.Clock(s)
	return told(day, sec)
}

const (
	firstYear = -9999
	lastYear  = 9999
	firstDay  = -4371587 // January 1, -9999
	lastDay   = 2932896  // December 31, 9999
)

const (
	noDay  = "0 6"     // of Days
	noDate = "0 0 0 2" // of Date
)

// wild: numbers that are no year, no month and no day of a month.
var wild = []int{
	math.MinInt, math.MinInt + 1, math.MinInt + 7, math.MinInt + 8, math.MinInt32, math.MinInt32 + 1, -1000000, -146097, -10001, -10000,
	10000, 10001, 146097, 1000000, math.MaxInt32 - 1, math.MaxInt32, math.MaxInt - 7, math.MaxInt - 1, math.MaxInt,
}

// farTimes: about the ends of int64, and where a narrower number would end.
func farTimes() []int64 {
	var l []int64
	for i := range int64(700) {
		l = append(l, math.MinInt64+i, math.MaxInt64-i)
	}
	for _, n := range []int64{math.MinInt32, math.MaxInt32, math.MaxUint32, 1 << 33, -1 << 33, 1 << 53, -1 << 53, 1 << 62, -1 << 62} {
		for i := int64(-10); i <= 10; i++ {
			l = append(l, n+i, n+n/999+i)
		}
	}
	for i := range int64(200000) {
		l = append(l, math.MinInt64+i*432, math.MaxInt64-i*432)
	}
	return l
}

// leap: by whole numbers without an end, so that no year is near a brim.
func leap(y int) bool {
	parts := func(n int64) bool {
		return new(big.Int).Mod(big.NewInt(int64(y)), big.NewInt(n)).Sign() == 0
	}
	if parts(100) {
		return parts(400)
	}
	return parts(4)
}

// long: a month's days, by its name's rhyme.
func long(y, m int) int {
	switch m {
	case 4, 6, 9, 11:
		return 30
	case 2:
		if leap(y) {
			return 29
		}
		return 28
	case 1, 3, 5, 7, 8, 10, 12:
		return 31
	}
	return 0
}

// day: a date and its number.
type day struct {
	n       int64
	y, m, d int
}

// everyDay goes through the calendar from January 1, -9999, on, a day at a time, until f answers false.
func everyDay(f func(x day) bool) {
	n := int64(firstDay)
	for y := firstYear; y <= lastYear; y++ {
		for m := 1; m <= 12; m++ {
			for d := 1; d <= long(y, m); d++ {
				if !f(day{n, y, m, d}) {
					return
				}
				n++
			}
		}
	}
}

// P401: Leap, Long, Right.

func TestLeapAsTheWordsSay(t *testing.T) {
	for _, y := range []int{4, 8, 96, 104, 400, 800, 1600, 1904, 1996, 2000, 2004, 2024, 2400, 9996, 0, -4, -8, -96, -104, -400, -2000, -9996, -10000, 10000, 10004, 400000, -400000} {
		is(t, told("Leap of", y), told(civil.Leap(y)), "true")
	}
	for _, y := range []int{1, 2, 3, 5, 100, 200, 300, 500, 1700, 1800, 1900, 1970, 2023, 2025, 2100, 9900, 9999, -1, -2, -3, -5, -100, -200, -300, -500, -1900, -9900, -9999, 10001, 10100, -10001, -10100, 100100} {
		is(t, told("Leap of", y), told(civil.Leap(y)), "false")
	}
}

func TestLeapOfEveryYear(t *testing.T) {
	for y := -20500; y <= 20500; y++ {
		same(t, told("Leap of", y), told(civil.Leap(y)), told(leap(y)))
	}
}

func TestLeapOfTheLeastAndTheGreatest(t *testing.T) {
	is(t, "Leap of the least int", told(civil.Leap(math.MinInt)), "true")
	is(t, "Leap of the greatest int", told(civil.Leap(math.MaxInt)), "false")
	for i := range 1000 {
		same(t, told("Leap of", math.MinInt+i), told(civil.Leap(math.MinInt+i)), told(leap(math.MinInt+i)))
		same(t, told("Leap of", math.MaxInt-i), told(civil.Leap(math.MaxInt-i)), told(leap(math.MaxInt-i)))
	}
	for _, y := range wild {
		is(t, told("Leap of", y), told(civil.Leap(y)), told(leap(y)))
	}
}

func TestLongOfEachMonth(t *testing.T) {
	common := []int{0, 31, 28, 31, 30, 31, 30, 31, 31, 30, 31, 30, 31, 0}
	for _, y := range []int{2023, 1900, 2100, 1, -1, -100, -9999, 9999, -10001, 10001, math.MaxInt} {
		for m, want := range common {
			is(t, told("Long of", y, m), told(civil.Long(y, m)), told(want))
		}
	}
	common[2] = 29
	for _, y := range []int{2024, 2000, 0, -4, -400, 9996, -10000, 10000, math.MinInt} {
		for m, want := range common {
			is(t, told("Long of", y, m), told(civil.Long(y, m)), told(want))
		}
	}
}

func TestLongOfEveryYear(t *testing.T) {
	for y := -10500; y <= 10500; y++ {
		for m := -2; m <= 15; m++ {
			if got, want := civil.Long(y, m), long(y, m); got != want {
				t.Fatalf("Long of %d %d: %d, not %d", y, m, got, want)
			}
		}
	}
}

func TestLongOfNoMonth(t *testing.T) {
	for _, y := range append([]int{2023, 2024, 0, -9999, 9999}, wild...) {
		for _, m := range append([]int{0, 13, -1, -2, -12, 14, 24, 100, 256 + 2, 1<<16 + 2}, wild...) {
			is(t, told("Long of", y, m), told(civil.Long(y, m)), "0")
		}
	}
}

func TestRightAtItsEdges(t *testing.T) {
	for _, x := range []struct {
		y, m, d int
		want    bool
	}{
		{1970, 1, 1, true}, {0, 1, 1, true}, {0, 2, 29, true}, {-1, 12, 31, true}, {2000, 2, 29, true}, {2024, 2, 29, true}, {-4, 2, 29, true}, {-9996, 2, 29, true}, {9996, 2, 29, true},
		{2023, 2, 29, false}, {1900, 2, 29, false}, {2100, 2, 29, false}, {-1, 2, 29, false}, {-100, 2, 29, false}, {9999, 2, 29, false}, {-9999, 2, 29, false}, {2024, 2, 30, false}, {2023, 2, 28, true},
		{-9999, 1, 1, true}, {-9999, 12, 31, true}, {9999, 1, 1, true}, {9999, 12, 31, true},
		{-10000, 1, 1, false}, {-10000, 12, 31, false}, {-10000, 2, 29, false}, {10000, 1, 1, false}, {10000, 12, 31, false}, {10000, 2, 29, false},
		{-9999, 1, 0, false}, {9999, 12, 32, false}, {1970, 0, 1, false}, {1970, 13, 1, false}, {1970, 0, 0, false}, {1970, 13, 0, false}, {1970, -1, 1, false}, {1970, 1, -1, false}, {0, 0, 0, false},
	} {
		is(t, told("Right of", x.y, x.m, x.d), told(civil.Right(x.y, x.m, x.d)), told(x.want))
	}
}

func TestRightOfEveryMonth(t *testing.T) {
	for _, y := range []int{-9999, -9998, -9996, -400, -100, -4, -1, 0, 1, 4, 1900, 1970, 2000, 2023, 2024, 9996, 9998, 9999} {
		for m := 1; m <= 12; m++ {
			for d := -40; d <= 70; d++ {
				same(t, told("Right of", y, m, d), told(civil.Right(y, m, d)), told(d >= 1 && d <= long(y, m)))
			}
		}
	}
}

// everyWrong calls f with dates that are none: at least one of their numbers is wild.
func everyWrong(f func(y, m, d int)) {
	numbers := append([]int{1, 2, 12, 28}, wild...)
	for _, a := range numbers {
		for _, b := range numbers {
			for _, c := range wild {
				f(a, b, c)
				f(a, c, b)
				f(c, a, b)
			}
		}
	}
}

func TestRightOfWildNumbers(t *testing.T) {
	everyWrong(func(y, m, d int) {
		same(t, told("Right of", y, m, d), told(civil.Right(y, m, d)), "false")
	})
}

// P402: Days, Date.

func TestDaysOfOrdinaryDates(t *testing.T) {
	for _, x := range []struct {
		n       int64
		y, m, d int
	}{
		{0, 1970, 1, 1}, {1, 1970, 1, 2}, {-1, 1969, 12, 31}, {30, 1970, 1, 31}, {31, 1970, 2, 1}, {58, 1970, 2, 28}, {59, 1970, 3, 1}, {364, 1970, 12, 31}, {365, 1971, 1, 1},
		{11016, 2000, 2, 29}, {10957, 2000, 1, 1}, {11017, 2000, 3, 1}, {11322, 2000, 12, 31}, {11323, 2001, 1, 1},
		{-25567, 1900, 1, 1}, {-25509, 1900, 2, 28}, {-25508, 1900, 3, 1}, {-141428, 1582, 10, 14}, {-141427, 1582, 10, 15},
		{24855, 2038, 1, 19}, {20775, 2026, 11, 18},
		{-719528, 0, 1, 1}, {-719529, -1, 12, 31}, {-719469, 0, 2, 29}, {-719468, 0, 3, 1}, {-719162, 1, 1, 1}, {-719163, 0, 12, 31},
		{firstDay, -9999, 1, 1}, {firstDay + 1, -9999, 1, 2}, {lastDay, 9999, 12, 31}, {lastDay - 1, 9999, 12, 30},
	} {
		is(t, told("Days of", x.y, x.m, x.d), days(x.y, x.m, x.d), told(x.n, api.OK))
		is(t, told("Date of", x.n), date(x.n), told(x.y, x.m, x.d, api.OK))
	}
}

func TestDaysOfWhatIsNoDay(t *testing.T) {
	for _, x := range [][3]int{
		{1900, 2, 29}, {2023, 2, 29}, {2024, 2, 30}, {-1, 2, 29}, {-100, 2, 29}, {2024, 4, 31}, {2024, 6, 31}, {2024, 9, 31}, {2024, 11, 31}, {2024, 1, 32}, {2024, 12, 32},
		{2024, 1, 0}, {2024, 1, -1}, {2024, 0, 1}, {2024, 13, 1}, {2024, -1, 1}, {2024, 0, 0}, {0, 0, 0}, {-9999, 1, 0}, {9999, 12, 32},
		{-10000, 12, 31}, {-10000, 1, 1}, {-10000, 2, 29}, {10000, 1, 1}, {10000, 12, 31}, {10000, 2, 29},
	} {
		is(t, told("Days of", x), days(x[0], x[1], x[2]), noDay)
	}
	everyWrong(func(y, m, d int) {
		same(t, told("Days of", y, m, d), days(y, m, d), noDay)
	})
}

func TestDaysAnswersBadDayWhereNotRight(t *testing.T) {
	for y := -10002; y <= 10002; y++ {
		for m := -1; m <= 14; m++ {
			for _, d := range []int{-1, 0, 1, 28, 29, 30, 31, 32} {
				n, k := civil.Days(y, m, d)
				if right := civil.Right(y, m, d); right != (k == api.OK) || !right && (n != 0 || k != api.BadDay) {
					t.Fatalf("Days of %d %d %d: %d, kind %d; Right: %v", y, m, d, n, int(k), right)
				}
			}
		}
	}
}

func TestDateOfWhatIsNoDay(t *testing.T) {
	for i := int64(1); i <= 200000; i++ {
		for _, n := range []int64{firstDay - i, lastDay + i} {
			same(t, told("Date of", n), date(n), noDate)
		}
	}
	for _, n := range []int64{math.MinInt64, math.MinInt64 + 1, math.MinInt64 + 719528, math.MaxInt64 - 719528, math.MaxInt64 - 719527, math.MaxInt64 - 1, math.MaxInt64} {
		is(t, told("Date of", n), date(n), noDate)
	}
	for _, n := range farTimes() {
		same(t, told("Date of", n), date(n), noDate)
	}
	for shift := 32; shift < 63; shift++ { // a day's number, if the high bits are dropped
		for _, n := range []int64{1<<shift + 11016, 1<<shift - 11016, -1<<shift + 11016, -1<<shift - 11016} {
			same(t, told("Date of", n), date(n), noDate)
		}
	}
}

func TestDaysAndDateAsTheLibraryCounts(t *testing.T) {
	for n := int64(firstDay); n <= lastDay; n += 37 {
		at := time.Unix(n*86400, 0).UTC()
		want := told(at.Year(), int(at.Month()), at.Day(), api.OK)
		if got := date(n); got != want {
			t.Fatalf("Date of %d: %s, not %s", n, got, want)
		}
		if got := days(at.Year(), int(at.Month()), at.Day()); got != told(n, api.OK) {
			t.Fatalf("Days of %s: %s, not %d", want, got, n)
		}
	}
}

// P403: Week, Clock.

func TestWeekAboutDayZero(t *testing.T) {
	for i, want := range []int{0, 1, 2, 3, 4, 5, 6, 0, 1, 2, 3, 4, 5, 6, 0, 1, 2, 3} {
		n := int64(i) - 11
		is(t, told("Week of", n), told(civil.Week(n)), told(want))
	}
	is(t, "Week of 0", told(civil.Week(0)), "4")
	is(t, "Week of 11016", told(civil.Week(11016)), "2")
	is(t, "Week of -11016", told(civil.Week(-11016)), "6")
}

// week: by whole numbers without an end.
func week(n int64) int {
	x := new(big.Int).Add(big.NewInt(n), big.NewInt(4))
	return int(x.Mod(x, big.NewInt(7)).Int64())
}

func TestWeekOfAnyNumber(t *testing.T) {
	is(t, "Week of the least int64", told(civil.Week(math.MinInt64)), "3")
	is(t, "Week of the greatest int64", told(civil.Week(math.MaxInt64)), "4")
	for _, n := range farTimes() {
		same(t, told("Week of", n), told(civil.Week(n)), told(week(n)))
	}
}

func TestWeekGoesOnFromDayToDay(t *testing.T) {
	w := civil.Week(firstDay - 100000)
	for n := int64(firstDay - 100000); n <= lastDay+100000; n++ {
		if got := civil.Week(n); got != w {
			t.Fatalf("Week of %d: %d, not %d", n, got, w)
		}
		w = (w + 1) % 7
	}
}

func TestWeekAsTheLibraryCounts(t *testing.T) {
	for n := int64(firstDay); n <= lastDay; n += 11 {
		want := int(time.Unix(n*86400, 0).UTC().Weekday())
		if got := civil.Week(n); got != want {
			t.Fatalf("Week of %d: %d, not %d", n, got, want)
		}
	}
}

func TestClockAtADaysEnds(t *testing.T) {
	for _, x := range []struct {
		t    int64
		want string
	}{
		{0, "0 0"}, {1, "0 1"}, {86399, "0 86399"}, {86400, "1 0"}, {86401, "1 1"}, {172799, "1 86399"}, {172800, "2 0"},
		{-1, "-1 86399"}, {-2, "-1 86398"}, {-86399, "-1 1"}, {-86400, "-1 0"}, {-86401, "-2 86399"}, {-172800, "-2 0"}, {-172801, "-3 86399"},
		{951782400, "11016 0"}, {951825600, "11016 43200"}, {951868799, "11016 86399"}, {-951782400, "-11016 0"}, {-951782399, "-11016 1"},
		{math.MinInt32, "-24856 74752"}, {math.MaxInt32, "24855 11647"},
		{math.MinInt64, "-106751991167301 30592"}, {math.MinInt64 + 30591, "-106751991167301 61183"}, {math.MinInt64 + 55807, "-106751991167301 86399"}, {math.MinInt64 + 55808, "-106751991167300 0"},
		{math.MaxInt64, "106751991167300 55807"}, {math.MaxInt64 - 55807, "106751991167300 0"}, {math.MaxInt64 - 55808, "106751991167299 86399"},
	} {
		is(t, told("Clock of", x.t), clock(x.t), x.want)
	}
}

// modelClock: by whole numbers without an end.
func modelClock(s int64) string {
	day, sec := new(big.Int).DivMod(big.NewInt(s), big.NewInt(86400), new(big.Int))
	return told(day, sec)
}

func TestClockOfAnyTime(t *testing.T) {
	for s := int64(-3 * 86400); s <= 3*86400; s += 7 {
		same(t, told("Clock of", s), clock(s), modelClock(s))
	}
	for _, s := range farTimes() {
		same(t, told("Clock of", s), clock(s), modelClock(s))
	}
	r := rand.New(rand.NewSource(4))
	for range 100000 {
		s := int64(r.Uint64())
		same(t, told("Clock of", s), clock(s), modelClock(s))
	}
}

func TestClockOfEveryDaysEnds(t *testing.T) {
	for n := int64(firstDay - 1000); n <= lastDay+1000; n++ {
		for _, sec := range [...]int{0, 1, 43200, 86398, 86399} {
			if gotDay, gotSec := civil.Clock(n*86400 + int64(sec)); gotDay != n || gotSec != sec {
				t.Fatalf("Clock of day %d, second %d: %d %d", n, sec, gotDay, gotSec)
			}
		}
	}
}

// P404: laws.

func TestDaysAndDateAreEachOthers(t *testing.T) {
	last := day{}
	everyDay(func(x day) bool {
		last = x
		n, k := civil.Days(x.y, x.m, x.d)
		if n != x.n || k != api.OK {
			t.Errorf("Days of %d %d %d: %d, kind %d, not %d", x.y, x.m, x.d, n, int(k), x.n)
			return false
		}
		y, m, d, k := civil.Date(n)
		if y != x.y || m != x.m || d != x.d || k != api.OK {
			t.Errorf("Date of %d: %d %d %d, kind %d, not %v", n, y, m, d, int(k), x)
			return false
		}
		return true
	})
	is(t, "the last day", told(last), told(day{lastDay, 9999, 12, 31}))
}

func TestADayLaterIsOneMore(t *testing.T) {
	for y := firstYear; y <= lastYear; y++ {
		for m := 1; m <= 12; m++ {
			end, k := civil.Days(y, m, civil.Long(y, m))
			laterY, laterM := y, m+1
			if m == 12 {
				laterY, laterM = y+1, 1
			}
			later, j := civil.Days(laterY, laterM, 1)
			if y == lastYear && m == 12 {
				is(t, "kinds at the last month's end", told(k, j), "0 6")
				continue
			}
			if k != api.OK || j != api.OK || later != end+1 {
				t.Fatalf("the end of %d %d: %d, kind %d, and a day later: %d, kind %d", y, m, end, int(k), later, int(j))
			}
		}
	}
}

func TestAnEraLaterIsAsLong(t *testing.T) {
	for y := firstYear; y+400 <= lastYear; y++ {
		n, _ := civil.Days(y, 12, 31)
		later, _ := civil.Days(y+400, 12, 31)
		if later-n != 146097 || civil.Week(n) != civil.Week(later) {
			t.Fatalf("from the end of %d on, 400 years have %d days", y, later-n)
		}
	}
}
