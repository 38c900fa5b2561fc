package expand_test

import (
	"fmt"
	"math"
	"math/rand"
	"slices"
	"strconv"
	"strings"
	"testing"
	"time"

	"noonmark/api"
	"noonmark/dayform"
	"noonmark/expand"
)

func is(t *testing.T, what, got, want string) {
	t.Helper()
	if got != want {
		t.Errorf("%.300s: %.600s, not %.600s", what, got, want)
	}
}

// same is for long loops: it stops at the first fault.
func same(t *testing.T, what, got, want string) {
	t.Helper()
	if got != want {
		t.Fatalf("%.600s: %.600s, not %.600s", what, got, want)
	}
}

const clockForm = "2006-01-02 15:04:05"

// told: fires as a text, each with its place, its year, what its clock shows, and the saving ahead.
func told(l []expand.Fire) string {
	var s []string
	for _, f := range l {
		s = append(s, fmt.Sprint(f.I, " ", f.Year, " ", time.Unix(f.At, 0).UTC().Format(clockForm), " ", f.Before))
	}
	return strings.Join(s, ", ")
}

func toldSpan(first, last int, endless bool) string {
	return fmt.Sprint(first, " ", last, " ", endless)
}

// toldYears: of fires of one rule, which are one a year.
func toldYears(l []expand.Fire) string {
	if len(l) == 0 {
		return "none"
	}
	for i, f := range l {
		if f.Year != l[0].Year+i {
			return "not one a year"
		}
	}
	return fmt.Sprint(l[0].Year, " to ", l[len(l)-1].Year)
}

// at: what a clock shows, as seconds.
func at(s string) int64 {
	x, err := time.Parse(clockForm, s)
	if err != nil {
		panic(err)
	}
	return x.Unix()
}

// rule: of a text: the first year, the last one or max, the month, the day (right, or plain numbers of an api.Day: kind/day/week), the time's seconds with a letter for its kind, the saving, the letter (or -).
func rule(s string) api.Rule {
	f := strings.Fields(s)
	r := api.Rule{From: number(f[0]), To: api.Endless, Month: number(f[2]), On: day(f[3]), Save: number(f[5])}
	if f[1] != "max" {
		r.To = number(f[1])
	}
	sec, isStandard := strings.CutSuffix(f[4], "s")
	sec, isUniversal := strings.CutSuffix(sec, "u")
	r.At.Sec = number(sec)
	if isStandard {
		r.At.Kind = 1
	} else if isUniversal {
		r.At.Kind = 2
	}
	if f[6] != "-" {
		r.Letter = f[6]
	}
	return r
}

func number(s string) int {
	n, err := strconv.Atoi(s)
	if err != nil {
		panic(err)
	}
	return n
}

func day(s string) api.Day {
	if f := strings.Split(s, "/"); len(f) == 3 {
		return api.Day{Kind: number(f[0]), Day: number(f[1]), Week: number(f[2])}
	}
	d, k := dayform.Parse(s)
	if k != api.OK {
		panic(s)
	}
	return d
}

// rules: of texts with a ; between two of them.
func rules(s string) []api.Rule {
	var l []api.Rule
	for _, x := range strings.Split(s, ";") {
		if x != "" {
			l = append(l, rule(x))
		}
	}
	return l
}

const (
	eu    = "1981 max 3 lastSun 3600u 3600 S;1996 max 10 lastSun 3600u 0 -"
	us    = "1967 2006 10 lastSun 7200 0 S;1967 1973 4 lastSun 7200 3600 D;1974 1974 1 6 7200 3600 D;1975 1975 2 23 7200 3600 D;1976 1986 4 lastSun 7200 3600 D;1987 2006 4 Sun>=1 7200 3600 D;2007 max 3 Sun>=8 7200 3600 D;2007 max 11 Sun>=1 7200 0 S"
	south = "1987 1999 10 lastSun 7200s 3600 -;1988 1990 3 Sun>=15 7200s 0 -;1991 max 3 lastSun 7200s 0 -"
	mars  = "2000 2002 3 1 0 0 -" // a rule of March 1 of three years
)

// wild: numbers far out; some would be years, months or days, if their high bits were dropped.
var wild = []int{
	math.MinInt, math.MinInt + 1, math.MinInt + 7, math.MinInt + 8, math.MinInt + 2000, math.MinInt32, -1 << 32, -1<<32 + 2000, -65536, -10000, -9999,
	10000, 10001, 65536 + 2000, 1 << 32, 1<<32 + 3, 1<<32 + 2000, math.MaxInt32, math.MaxInt - 2000, math.MaxInt - 8, math.MaxInt - 7, math.MaxInt - 1, math.MaxInt,
}

// P1401: Year, From.

func TestYearOfOrdinaryRules(t *testing.T) {
	for _, x := range []struct {
		l    string
		y    int
		want string
	}{
		{eu, 2024, "0 2024 2024-03-31 01:00:00 0, 1 2024 2024-10-27 01:00:00 3600"}, {eu, 2023, "0 2023 2023-03-26 01:00:00 0, 1 2023 2023-10-29 01:00:00 3600"},
		{eu, 1980, ""}, {eu, 1981, "0 1981 1981-03-29 01:00:00 0"}, {eu, 1982, "0 1982 1982-03-28 01:00:00 3600"}, {eu, 1995, "0 1995 1995-03-26 01:00:00 3600"}, {eu, 1996, "0 1996 1996-03-31 01:00:00 3600, 1 1996 1996-10-27 01:00:00 3600"}, {eu, 1997, "0 1997 1997-03-30 01:00:00 0, 1 1997 1997-10-26 01:00:00 3600"},
		{us, 1966, ""}, {us, 1967, "1 1967 1967-04-30 02:00:00 0, 0 1967 1967-10-29 02:00:00 3600"}, {us, 1974, "2 1974 1974-01-06 02:00:00 0, 0 1974 1974-10-27 02:00:00 3600"}, {us, 1975, "3 1975 1975-02-23 02:00:00 0, 0 1975 1975-10-26 02:00:00 3600"}, {us, 1976, "4 1976 1976-04-25 02:00:00 0, 0 1976 1976-10-31 02:00:00 3600"}, {us, 1987, "5 1987 1987-04-05 02:00:00 0, 0 1987 1987-10-25 02:00:00 3600"}, {us, 2006, "5 2006 2006-04-02 02:00:00 0, 0 2006 2006-10-29 02:00:00 3600"}, {us, 2007, "6 2007 2007-03-11 02:00:00 0, 7 2007 2007-11-04 02:00:00 3600"}, {us, 9999, "6 9999 9999-03-14 02:00:00 0, 7 9999 9999-11-07 02:00:00 3600"},
		{south, 1987, "0 1987 1987-10-25 02:00:00 0"}, {south, 1988, "1 1988 1988-03-20 02:00:00 3600, 0 1988 1988-10-30 02:00:00 0"}, {south, 1991, "2 1991 1991-03-31 02:00:00 3600, 0 1991 1991-10-27 02:00:00 0"}, {south, 2000, "2 2000 2000-03-26 02:00:00 3600"}, {south, 2001, "2 2001 2001-03-25 02:00:00 0"},
	} {
		is(t, fmt.Sprint("Year ", x.y, " of ", x.l), told(expand.Year(rules(x.l), x.y)), x.want)
		is(t, fmt.Sprint("From ", x.y, " on, of ", x.l), told(expand.From(rules(x.l), x.y, x.y)), x.want)
	}
}

func TestFromOfSeveralYears(t *testing.T) {
	for _, x := range []struct {
		l        string
		from, to int
		want     string
	}{
		{eu, 1979, 1982, "0 1981 1981-03-29 01:00:00 0, 0 1982 1982-03-28 01:00:00 3600"}, {eu, 1996, 1997, "0 1996 1996-03-31 01:00:00 3600, 1 1996 1996-10-27 01:00:00 3600, 0 1997 1997-03-30 01:00:00 0, 1 1997 1997-10-26 01:00:00 3600"},
		{us, 1973, 1975, "1 1973 1973-04-29 02:00:00 0, 0 1973 1973-10-28 02:00:00 3600, 2 1974 1974-01-06 02:00:00 0, 0 1974 1974-10-27 02:00:00 3600, 3 1975 1975-02-23 02:00:00 0, 0 1975 1975-10-26 02:00:00 3600"},
		{us, 2006, 2007, "5 2006 2006-04-02 02:00:00 0, 0 2006 2006-10-29 02:00:00 3600, 6 2007 2007-03-11 02:00:00 0, 7 2007 2007-11-04 02:00:00 3600"},
		{south, 1999, 2001, "2 1999 1999-03-28 02:00:00 3600, 0 1999 1999-10-31 02:00:00 0, 2 2000 2000-03-26 02:00:00 3600, 2 2001 2001-03-25 02:00:00 0"},
		{mars, 1990, 2010, "0 2000 2000-03-01 00:00:00 0, 0 2001 2001-03-01 00:00:00 0, 0 2002 2002-03-01 00:00:00 0"}, {mars, 2001, 2001, "0 2001 2001-03-01 00:00:00 0"}, {mars, 2003, 2010, ""}, {mars, 1990, 1999, ""},
	} {
		is(t, fmt.Sprint("From ", x.from, " to ", x.to, " of ", x.l), told(expand.From(rules(x.l), x.from, x.to)), x.want)
	}
}

func TestOfNoRule(t *testing.T) {
	for _, l := range [][]api.Rule{nil, {}, rules(eu)[:0]} {
		for _, y := range append([]int{-1, 0, 1, 1970, 2024, 9999}, wild...) {
			is(t, fmt.Sprint("Year ", y), told(expand.Year(l, y)), "")
			is(t, fmt.Sprint("From ", y), told(expand.From(l, y, math.MaxInt)), "")
			is(t, fmt.Sprint("up to ", y), told(expand.From(l, math.MinInt, y)), "")
			is(t, "Instant", fmt.Sprint(expand.Instant(l, expand.Fire{At: 5}, y)), "0")
		}
		is(t, "Span", toldSpan(expand.Span(l)), "0 0 false")
		is(t, "Letter", expand.Letter(l), "")
	}
}

func TestYearsInWhichARuleFires(t *testing.T) {
	for _, x := range []struct {
		from, to int
		want     string
	}{
		{2000, 2000, "2000 to 2000"}, {2000, 2001, "2000 to 2001"}, {2000, 2150, "2000 to 2150"}, {2000, api.Endless, "2000 to 9999"}, {2000, 9999, "2000 to 9999"}, {2000, 9998, "2000 to 9998"}, {2000, 10001, "2000 to 9999"}, {2000, math.MaxInt, "2000 to 9999"},
		{2001, 2000, "none"}, {9999, 1, "none"}, {2, 1, "none"}, {1, 0, "none"}, {2000, 0, "none"}, {2000, -1, "none"}, {2000, math.MinInt, "none"}, {math.MaxInt, math.MinInt, "none"},
		{1, 1, "1 to 1"}, {0, 0, "none"}, {0, 1, "1 to 1"}, {-1, -1, "none"}, {-5, 3, "1 to 3"}, {-9999, -1, "none"}, {1, api.Endless, "1 to 9999"}, {0, api.Endless, "1 to 9999"}, {math.MinInt, 2, "1 to 2"}, {math.MinInt, api.Endless, "1 to 9999"}, {math.MinInt, math.MaxInt, "1 to 9999"}, {math.MinInt, math.MinInt, "none"}, {math.MinInt, 0, "none"},
		{9999, 9999, "9999 to 9999"}, {9998, 9999, "9998 to 9999"}, {9999, api.Endless, "9999 to 9999"}, {9999, 10001, "9999 to 9999"}, {10000, 10000, "none"}, {10000, api.Endless, "none"}, {10000, 10001, "none"}, {10001, api.Endless, "none"}, {20000, 30000, "none"}, {10000, 9999, "none"}, {math.MaxInt, math.MaxInt, "none"}, {math.MaxInt, api.Endless, "none"},
	} {
		l := []api.Rule{{From: x.from, To: x.to, Month: 3, On: api.Day{Day: 1}}}
		is(t, fmt.Sprint("years of a rule from ", x.from, " to ", x.to), toldYears(expand.From(l, math.MinInt, math.MaxInt)), x.want)
		l[0].Month, l[0].On = 2, api.Day{Kind: 1}
		is(t, fmt.Sprint("years of February's last Sundays from ", x.from, " to ", x.to), toldYears(expand.From(l, -10000, 20000)), x.want)
	}
}

func TestStretches(t *testing.T) {
	l := rules("-20 max 3 1 0 0 -")
	for _, x := range []struct {
		from, to int
		want     string
	}{
		{1, 9999, "1 to 9999"}, {0, 10000, "1 to 9999"}, {math.MinInt, math.MaxInt, "1 to 9999"}, {-20, 20000, "1 to 9999"}, {2, 9998, "2 to 9998"}, {2000, 2024, "2000 to 2024"},
		{1, 1, "1 to 1"}, {0, 0, "none"}, {0, 1, "1 to 1"}, {-1, 0, "none"}, {-20, -1, "none"}, {-20, 2, "1 to 2"}, {math.MinInt, 0, "none"}, {math.MinInt, 1, "1 to 1"}, {math.MinInt, math.MinInt, "none"}, {math.MinInt, math.MinInt + 1, "none"},
		{9999, 9999, "9999 to 9999"}, {9999, 10000, "9999 to 9999"}, {10000, 10000, "none"}, {10000, 10001, "none"}, {9998, 20000, "9998 to 9999"}, {9999, math.MaxInt, "9999 to 9999"}, {10000, math.MaxInt, "none"}, {math.MaxInt, math.MaxInt, "none"}, {math.MaxInt - 1, math.MaxInt, "none"},
		{2, 1, "none"}, {2024, 2000, "none"}, {2025, 2024, "none"}, {9999, 1, "none"}, {10000, 0, "none"}, {1, 0, "none"}, {10000, 9999, "none"}, {math.MaxInt, math.MinInt, "none"}, {2000, math.MinInt, "none"}, {math.MaxInt, 2000, "none"},
	} {
		is(t, fmt.Sprint("years from ", x.from, " to ", x.to), toldYears(expand.From(l, x.from, x.to)), x.want)
	}
	for _, y := range append([]int{-20, -1, 0, 10000}, wild...) {
		is(t, fmt.Sprint("Year ", y), told(expand.Year(l, y)), "")
	}
	for _, y := range []int{1, 2, 1969, 1970, 2000, 2024, 9998, 9999} {
		is(t, fmt.Sprint("Year ", y), toldYears(expand.Year(l, y)), fmt.Sprint(y, " to ", y))
	}
}

func TestDaysThatAreNoneInSomeYears(t *testing.T) {
	for _, on := range []string{"29", "Sun>=29", "Thu>=29", "Sat<=29", "Wed<=29"} {
		l := rules("1 max 2 " + on + " 0 3600 -;1 max 1 1 0 0 -")
		for y := 1; y <= 9999; y++ {
			want := 1
			if y%400 == 0 || y%4 == 0 && y%100 != 0 {
				want = 2
			}
			same(t, fmt.Sprint(on, ": how many fires in ", y), fmt.Sprint(len(expand.Year(l, y))), fmt.Sprint(want))
		}
	}
	for _, x := range []struct {
		l        string
		from, to int
		want     string
	}{
		{"1 max 2 29 0 60 -", 1895, 1905, "0 1896 1896-02-29 00:00:00 60, 0 1904 1904-02-29 00:00:00 60"}, {"1 max 2 29 0 60 -", 2095, 2105, "0 2096 2096-02-29 00:00:00 60, 0 2104 2104-02-29 00:00:00 60"}, {"1 max 2 29 0 60 -", 1997, 2003, "0 2000 2000-02-29 00:00:00 60"}, {"1 max 2 29 0 60 -", 1, 8, "0 4 0004-02-29 00:00:00 0, 0 8 0008-02-29 00:00:00 60"}, {"1 max 2 29 0 60 -", 9993, 9999, "0 9996 9996-02-29 00:00:00 60"},
		{"1900 1900 2 29 0 60 -", 1, 9999, ""}, {"1897 1903 2 29 0 60 -", 1, 9999, ""}, {"1897 1904 2 29 0 60 -", 1, 9999, "0 1904 1904-02-29 00:00:00 0"}, {"1896 1903 2 29 0 60 -", 1, 9999, "0 1896 1896-02-29 00:00:00 0"}, {"9997 max 2 29 0 60 -", 1, 9999, ""},
		{"1 max 2 Sun>=29 0 60 -", 2020, 2026, "0 2020 2020-03-01 00:00:00 60, 0 2024 2024-03-03 00:00:00 60"}, {"1 max 2 Sun<=29 0 60 -", 2020, 2026, "0 2020 2020-02-23 00:00:00 60, 0 2024 2024-02-25 00:00:00 60"},
		{"2023 2025 2 28 0 60 -", 1, 9999, "0 2023 2023-02-28 00:00:00 0, 0 2024 2024-02-28 00:00:00 60, 0 2025 2025-02-28 00:00:00 60"}, {"2023 2024 2 lastThu 0 60 -", 1, 9999, "0 2023 2023-02-23 00:00:00 0, 0 2024 2024-02-29 00:00:00 60"},
	} {
		is(t, fmt.Sprint("From ", x.from, " to ", x.to, " of ", x.l), told(expand.From(rules(x.l), x.from, x.to)), x.want)
	}
}

// never: rules that fire in no year, since their day is none, or their month.
func never() []api.Rule {
	l := rules("1 max 2 30 0 7 -;1 max 2 31 0 7 -;1 max 2 Sun>=30 0 7 -;1 max 2 Sun<=31 0 7 -;1 max 4 31 0 7 -;1 max 6 31 0 7 -;1 max 9 31 0 7 -;1 max 11 Mon<=31 0 7 -;1 max 11 Mon>=31 0 7 -")
	for _, m := range append([]int{-12, -2, -1, 0, 13, 14, 256 + 3}, wild...) {
		for _, on := range []string{"1", "lastSun", "Sun>=8", "Sun<=25"} {
			l = append(l, api.Rule{From: 1, To: api.Endless, Month: m, On: day(on), Save: 7})
		}
	}
	for _, on := range []string{"0/0/0", "0/32/0", "0/-1/0", "0/1/1", "0/1/-1", "1/1/0", "1/0/7", "1/0/-1", "2/0/0", "2/32/0", "2/8/7", "2/8/-1", "3/0/0", "3/32/0", "3/8/7", "3/8/-1", "4/1/0", "4/8/1", "-1/1/0", "256/1/0"} {
		l = append(l, rule("1 max 3 "+on+" 0 7 -"))
	}
	for _, n := range wild {
		for _, on := range []api.Day{{Day: n}, {Day: 1, Week: n}, {Kind: 1, Day: n}, {Kind: 1, Week: n}, {Kind: 2, Day: n}, {Kind: 2, Day: 1, Week: n}, {Kind: 3, Day: n}, {Kind: 3, Day: 1, Week: n}, {Kind: n, Day: 1}} {
			l = append(l, api.Rule{From: 1, To: api.Endless, Month: 3, On: on, Save: 7})
		}
	}
	return l
}

func TestDaysThatAreNoneInEveryYear(t *testing.T) {
	for _, r := range never() {
		same(t, fmt.Sprint("all years of ", r), told(expand.From([]api.Rule{r}, 1, 9999)), "")
		l := []api.Rule{rule("1990 max 3 1 0 60 -"), r, rule("1995 max 4 1 0 0 -")}
		same(t, fmt.Sprint("beside others: ", r), told(expand.Year(l, 2024)), "0 2024 2024-03-01 00:00:00 0, 2 2024 2024-04-01 00:00:00 60")
		same(t, fmt.Sprint("beside others, first: ", r), told(expand.Year(l, 1990)), "0 1990 1990-03-01 00:00:00 0")
		same(t, fmt.Sprint("Letter beside others: ", r), expand.Letter([]api.Rule{{From: 1, To: 9, Month: r.Month, On: r.On, Letter: "N"}, rule("2000 max 3 1 0 0 A")}), "A")
	}
}

func TestDaysInTheMonthAheadOrBehind(t *testing.T) {
	for _, x := range []struct {
		l        string
		from, to int
		want     string
	}{
		{"2023 2023 12 Sat>=31 0 60 -", 2000, 2030, "0 2023 2024-01-06 00:00:00 0"}, {"2023 2023 12 Sat>=31 0 60 -", 2024, 2024, ""}, {"2023 2023 12 Sun>=31 0 60 -", 2023, 2023, "0 2023 2023-12-31 00:00:00 0"}, {"2024 2024 1 Tue<=1 0 60 -", 2000, 2030, "0 2024 2023-12-26 00:00:00 0"}, {"2024 2024 1 Tue<=1 0 60 -", 2023, 2023, ""}, {"2024 2024 1 Mon<=1 0 60 -", 2024, 2024, "0 2024 2024-01-01 00:00:00 0"},
		{"2024 2024 3 Wed<=1 0 60 -", 2024, 2024, "0 2024 2024-02-28 00:00:00 0"}, {"2023 2023 4 Sat>=30 0 60 -", 2023, 2023, "0 2023 2023-05-06 00:00:00 0"},
		// the order is that of years, though clocks show another one
		{"2024 2024 1 1 0 60 -;2023 2023 12 Sat>=31 0 120 -", 2023, 2024, "1 2023 2024-01-06 00:00:00 0, 0 2024 2024-01-01 00:00:00 120"}, {"2023 2023 12 31 0 60 -;2024 2024 1 Tue<=1 0 120 -", 2023, 2024, "0 2023 2023-12-31 00:00:00 0, 1 2024 2023-12-26 00:00:00 60"}, {"2023 2023 12 31 0 60 -;2024 2024 1 Tue<=1 0 120 -", 2024, 2024, "1 2024 2023-12-26 00:00:00 60"},
		// in a year it is that of clocks, though months have another one
		{"2024 2024 2 Fri>=29 0 60 -;2024 2024 3 Thu<=1 0 120 -", 2024, 2024, "1 2024 2024-02-29 00:00:00 0, 0 2024 2024-03-01 00:00:00 120"},
		// the ends of what rules have
		{"9999 max 12 Sat>=31 0 60 -", 9999, 9999, "0 9999 10000-01-01 00:00:00 0"}, {"9998 max 12 Thu>=31 0 60 -", 9999, 10000, "0 9999 10000-01-06 00:00:00 60"}, {"9999 max 12 Sat>=31 0 60 -", 10000, 10000, ""}, {"9999 max 12 Fri>=31 0 60 -", 9999, 9999, "0 9999 9999-12-31 00:00:00 0"}, {"9999 max 12 lastFri 0 60 -", 9999, 9999, "0 9999 9999-12-31 00:00:00 0"},
		{"1 1 1 Sun<=1 0 60 -", 1, 1, "0 1 0000-12-31 00:00:00 0"}, {"-5 2 1 Tue<=1 0 60 -", -5, 2, "0 1 0000-12-26 00:00:00 0, 0 2 0002-01-01 00:00:00 60"}, {"1 1 1 Sun<=1 0 60 -", 0, 0, ""}, {"1 1 1 Mon<=1 0 60 -", 1, 1, "0 1 0001-01-01 00:00:00 0"},
	} {
		is(t, fmt.Sprint("From ", x.from, " to ", x.to, " of ", x.l), told(expand.From(rules(x.l), x.from, x.to)), x.want)
	}
}

func TestTimesOutsideOfTheDay(t *testing.T) {
	for _, x := range []struct {
		l        string
		from, to int
		want     string
	}{
		{"2024 2024 3 10 86399 60 -", 2024, 2024, "0 2024 2024-03-10 23:59:59 0"}, {"2024 2024 3 10 86400 60 -", 2024, 2024, "0 2024 2024-03-11 00:00:00 0"}, {"2024 2024 3 10 90061 60 -", 2024, 2024, "0 2024 2024-03-11 01:01:01 0"}, {"2024 2024 3 10 604799 60 -", 2024, 2024, "0 2024 2024-03-16 23:59:59 0"}, {"2024 2024 3 10 -1 60 -", 2024, 2024, "0 2024 2024-03-09 23:59:59 0"}, {"2024 2024 3 10 -86401 60 -", 2024, 2024, "0 2024 2024-03-08 23:59:59 0"}, {"2024 2024 3 10 -604799 60 -", 2024, 2024, "0 2024 2024-03-03 00:00:01 0"},
		{"2024 2024 3 10 -604799s 60 -", 2024, 2024, "0 2024 2024-03-03 00:00:01 0"}, {"2024 2024 3 10 604799u 60 -", 2024, 2024, "0 2024 2024-03-16 23:59:59 0"},
		// in another year
		{"2023 2023 12 31 86400 60 -", 2023, 2024, "0 2023 2024-01-01 00:00:00 0"}, {"2023 2023 12 31 604799 60 -", 2024, 2024, ""}, {"2024 2024 1 1 -1 60 -", 2023, 2024, "0 2024 2023-12-31 23:59:59 0"}, {"2024 2024 1 1 -604799 60 -", 2023, 2023, ""},
		{"9999 9999 12 31 86400 60 -", 9999, 10000, "0 9999 10000-01-01 00:00:00 0"}, {"1 1 1 1 -1 60 -", 0, 1, "0 1 0000-12-31 23:59:59 0"},
		{"2000 2000 7 1 63072000 60 -", 2000, 2002, "0 2000 2002-07-01 00:00:00 0"}, {"2000 2000 7 1 -63158400 60 -", 1990, 2010, "0 2000 1998-07-01 00:00:00 0"},
		// years go ahead of clocks, in the order and in what is ahead
		{"2024 2024 1 1 -3600 60 -;2023 2023 12 31 90000 120 -", 2023, 2024, "1 2023 2024-01-01 01:00:00 0, 0 2024 2023-12-31 23:00:00 120"}, {"2024 2024 1 1 -3600 60 -;2023 2023 12 31 90000 120 -", 2024, 2024, "0 2024 2023-12-31 23:00:00 120"}, {"2001 2001 1 1 -94608000 60 -;2000 2000 1 1 0 120 -", 2000, 2001, "1 2000 2000-01-01 00:00:00 0, 0 2001 1998-01-02 00:00:00 120"},
	} {
		is(t, fmt.Sprint("From ", x.from, " to ", x.to, " of ", x.l), told(expand.From(rules(x.l), x.from, x.to)), x.want)
	}
}

func TestFiresOfTheSameClock(t *testing.T) {
	for _, x := range []struct {
		l        string
		from, to int
		want     string
	}{
		{"2000 2000 3 1 0 60 -;2000 2000 3 1 0 120 -", 2000, 2000, "0 2000 2000-03-01 00:00:00 0, 1 2000 2000-03-01 00:00:00 60"}, {"2000 2000 3 1 0 120 -;2000 2000 3 1 0 60 -", 2000, 2000, "0 2000 2000-03-01 00:00:00 0, 1 2000 2000-03-01 00:00:00 120"},
		{"2000 2000 4 1 0 60 -;2000 2000 3 31 86400 120 -", 2000, 2000, "0 2000 2000-04-01 00:00:00 0, 1 2000 2000-04-01 00:00:00 60"}, {"2000 2000 3 31 86400 60 -;2000 2000 4 1 0 120 -", 2000, 2000, "0 2000 2000-04-01 00:00:00 0, 1 2000 2000-04-01 00:00:00 60"}, {"2000 2000 3 lastFri 0 60 -;2000 2000 3 31 0 120 -", 2000, 2000, "0 2000 2000-03-31 00:00:00 0, 1 2000 2000-03-31 00:00:00 60"},
		{"2000 2000 3 1 0u 60 -;2000 2000 3 1 0 120 -;2000 2000 3 1 0s 180 -", 2000, 2000, "0 2000 2000-03-01 00:00:00 0, 1 2000 2000-03-01 00:00:00 60, 2 2000 2000-03-01 00:00:00 120"},
		{"2000 2000 3 1 0 60 -;2000 2000 3 1 -1 120 -;2000 2000 3 1 0 180 -;2000 2000 3 1 1 240 -;2000 2000 3 1 0 300 -", 2000, 2000, "1 2000 2000-02-29 23:59:59 0, 0 2000 2000-03-01 00:00:00 120, 2 2000 2000-03-01 00:00:00 60, 4 2000 2000-03-01 00:00:00 180, 3 2000 2000-03-01 00:00:01 300"},
		{"2001 2001 1 1 0 60 -;2000 2000 12 31 86400 120 -", 2000, 2001, "1 2000 2001-01-01 00:00:00 0, 0 2001 2001-01-01 00:00:00 120"}, {"2000 2000 12 31 86400 120 -;2001 2001 1 1 0 60 -", 2000, 2001, "0 2000 2001-01-01 00:00:00 0, 1 2001 2001-01-01 00:00:00 120"},
		// the saving ahead is that of the last one by places
		{"2000 2000 3 1 0 60 -;2000 2000 3 1 0 120 -;2001 2001 3 1 0 0 -", 2001, 2001, "2 2001 2001-03-01 00:00:00 120"}, {"2001 2001 3 1 0 0 -;2000 2000 3 1 0 120 -;2000 2000 3 1 0 60 -", 2001, 2001, "0 2001 2001-03-01 00:00:00 60"},
	} {
		is(t, fmt.Sprint("From ", x.from, " to ", x.to, " of ", x.l), told(expand.From(rules(x.l), x.from, x.to)), x.want)
	}
}

func TestManyFiresOfTheSameClock(t *testing.T) {
	var l []api.Rule
	for i := range 300 {
		l = append(l, api.Rule{From: 2000, To: api.Endless, Month: 3, On: api.Day{Day: 1}, Save: i})
	}
	for _, y := range []int{2000, 2001, 2024} {
		for i, f := range expand.Year(l, y) {
			before := i - 1
			if i == 0 && y > 2000 {
				before = 299
			}
			is(t, fmt.Sprint("fire ", i, " of ", y), fmt.Sprint(f.I, f.Year, f.Before), fmt.Sprint(i, y, max(before, 0)))
		}
	}
}

func TestAnOrderThatIsNotThatOfMonths(t *testing.T) {
	for _, x := range []struct{ l, want string }{
		{"2000 2000 11 1 0 60 -;2000 2000 3 1 0 120 -", "1 2000 2000-03-01 00:00:00 0, 0 2000 2000-11-01 00:00:00 120"}, {"2000 2000 3 1 26438400 60 -;2000 2000 11 1 0 120 -", "1 2000 2000-11-01 00:00:00 0, 0 2000 2001-01-01 00:00:00 120"}, {"2000 2000 11 1 -25920000 60 -;2000 2000 3 1 0 120 -", "0 2000 2000-01-06 00:00:00 0, 1 2000 2000-03-01 00:00:00 60"},
		{"2000 2000 4 1 0 60 -;2000 2000 3 31 86401 120 -", "0 2000 2000-04-01 00:00:00 0, 1 2000 2000-04-01 00:00:01 60"}, {"2000 2000 4 1 -1 60 -;2000 2000 3 31 86400 120 -", "0 2000 2000-03-31 23:59:59 0, 1 2000 2000-04-01 00:00:00 60"}, {"2000 2000 4 1 -172800 60 -;2000 2000 3 31 0 120 -", "0 2000 2000-03-30 00:00:00 0, 1 2000 2000-03-31 00:00:00 60"},
		{"2000 2000 3 20 0 1 -;2000 2000 3 1 0 2 -;2000 2000 3 10 0 3 -;2000 2000 3 10 1 4 -;2000 2000 2 10 0 5 -", "4 2000 2000-02-10 00:00:00 0, 1 2000 2000-03-01 00:00:00 5, 2 2000 2000-03-10 00:00:00 2, 3 2000 2000-03-10 00:00:01 3, 0 2000 2000-03-20 00:00:00 4"},
	} {
		is(t, "Year 2000 of "+x.l, told(expand.Year(rules(x.l), 2000)), x.want)
		is(t, "From 1990 to 2010 of "+x.l, told(expand.From(rules(x.l), 1990, 2010)), x.want)
	}
}

func TestTheSavingAhead(t *testing.T) {
	for _, x := range []struct {
		l        string
		from, to int
		want     string
	}{
		// of the first fire of all
		{"2000 max 3 1 0 60 -", 1, 2000, "0 2000 2000-03-01 00:00:00 0"}, {"2000 max 3 1 0 60 -;1999 1999 2 29 0 120 -", 2000, 2000, "0 2000 2000-03-01 00:00:00 0"}, {"2000 max 3 1 0 60 -;2000 1990 1 1 0 120 -", 2000, 2000, "0 2000 2000-03-01 00:00:00 0"}, {"1 max 3 1 0 60 -", 1, 1, "0 1 0001-03-01 00:00:00 0"}, {"-9 max 3 1 0 60 -", 1, 1, "0 1 0001-03-01 00:00:00 0"}, {"1 max 3 1 0 60 -;-9 0 3 1 0 120 -", 1, 1, "0 1 0001-03-01 00:00:00 0"},
		// over years without a fire
		{"1896 max 2 29 0 60 -", 1904, 1904, "0 1904 1904-02-29 00:00:00 60"}, {"1896 max 2 29 0 60 -;1904 1904 3 1 0 0 -", 1904, 1904, "0 1904 1904-02-29 00:00:00 60, 1 1904 1904-03-01 00:00:00 60"}, {"1896 max 2 29 0 60 -;1903 1903 3 1 0 0 -", 1897, 1903, "1 1903 1903-03-01 00:00:00 60"}, {"1896 1903 2 29 0 60 -;1904 1904 1 1 0 0 -", 1897, 1904, "1 1904 1904-01-01 00:00:00 60"}, {"1897 1903 2 29 0 60 -;1904 1904 1 1 0 0 -", 1890, 1904, "1 1904 1904-01-01 00:00:00 0"}, {"1 max 2 29 0 60 -;2104 2104 1 1 0 0 -", 2104, 2104, "1 2104 2104-01-01 00:00:00 60, 0 2104 2104-02-29 00:00:00 0"}, {"1 max 2 29 0 60 -;8 8 1 1 0 0 -", 8, 8, "1 8 0008-01-01 00:00:00 60, 0 8 0008-02-29 00:00:00 0"}, {"1 max 2 29 0 60 -;4 4 1 1 0 0 -", 4, 4, "1 4 0004-01-01 00:00:00 0, 0 4 0004-02-29 00:00:00 0"},
		// over a rule that has ended long ago
		{"1900 1900 3 1 0 60 -;2000 max 3 1 0 0 -", 2000, 2001, "1 2000 2000-03-01 00:00:00 60, 1 2001 2001-03-01 00:00:00 0"}, {"1 1 3 1 0 60 -;9999 9999 3 1 0 0 -", 9999, 9999, "1 9999 9999-03-01 00:00:00 60"}, {"2000 max 3 1 0 0 -;1900 1910 3 1 0 60 -", 1950, 2000, "0 2000 2000-03-01 00:00:00 60"},
		// of rules that have ended all, the last fire counts, and neither place nor first year
		{"1900 1940 3 1 0 60 -;1910 1939 9 1 0 120 -;2000 2000 1 1 0 0 -", 2000, 2000, "2 2000 2000-01-01 00:00:00 60"}, {"1900 1939 3 1 0 60 -;1910 1940 2 1 0 120 -;2000 2000 1 1 0 0 -", 2000, 2000, "2 2000 2000-01-01 00:00:00 120"}, {"1900 1940 9 1 0 60 -;1910 1940 3 1 0 120 -;2000 2000 1 1 0 0 -", 2000, 2000, "2 2000 2000-01-01 00:00:00 60"}, {"1900 1940 3 1 0 60 -;1910 1940 9 1 0 120 -;2000 2000 1 1 0 0 -", 2000, 2000, "2 2000 2000-01-01 00:00:00 120"}, {"1930 1930 3 1 0 60 -;1920 1920 3 1 0 120 -;1910 1910 3 1 0 180 -;2000 2000 1 1 0 0 -", 2000, 2000, "3 2000 2000-01-01 00:00:00 60"}, {"1938 1942 2 29 0 60 -;1900 1939 3 1 0 120 -;2000 2000 1 1 0 0 -", 2000, 2000, "2 2000 2000-01-01 00:00:00 60"}, {"1936 1943 2 29 0 60 -;1900 1941 3 1 0 120 -;2000 2000 1 1 0 0 -", 2000, 2000, "2 2000 2000-01-01 00:00:00 120"},
		{"1900 1940 3 1 0 60 -;1900 1940 9 1 0 0 -", 1941, 2000, ""},
		// of a year's fires each has the one ahead
		{"1900 max 3 1 0 60 -;1900 max 6 1 0 120 -;1900 max 9 1 0 0 -", 2000, 2000, "0 2000 2000-03-01 00:00:00 0, 1 2000 2000-06-01 00:00:00 60, 2 2000 2000-09-01 00:00:00 120"}, {"1900 max 3 1 0 60 -;1900 max 6 1 0 -120 -", 2000, 2000, "0 2000 2000-03-01 00:00:00 -120, 1 2000 2000-06-01 00:00:00 60"},
		// a clock that shows another year
		{"2000 2000 3 1 0 60 -;1999 1999 1 1 86400000 120 -;2001 2001 1 1 0 0 -", 2001, 2001, "2 2001 2001-01-01 00:00:00 60"}, {"2000 2000 3 1 -86400000 60 -;1999 1999 12 1 0 120 -;2001 2001 1 1 0 0 -", 2001, 2001, "2 2001 2001-01-01 00:00:00 60"},
	} {
		is(t, fmt.Sprint("From ", x.from, " to ", x.to, " of ", x.l), told(expand.From(rules(x.l), x.from, x.to)), x.want)
	}
}

func TestTheSavingAheadOfAnyYear(t *testing.T) {
	// the rule that fires a last time n years ahead
	for n := 1; n <= 120; n++ {
		l := rules(fmt.Sprint("1850 ", 2000-n, " 2 29 0 60 -;2000 2000 1 1 0 0 -"))
		want := "60"
		if 2000-n < 1852 {
			want = "0"
		}
		f := expand.Year(l, 2000)
		is(t, fmt.Sprint("ahead of 2000, up to ", 2000-n), fmt.Sprint(len(f), f[0].Before), "1 "+want)
	}
}

func TestAnySaving(t *testing.T) {
	for _, save := range append([]int{0, 1, -1, 3600, -3600, 86400, -86400}, wild...) {
		l := []api.Rule{{From: 2000, To: 2000, Month: 3, On: api.Day{Day: 1}, Save: save}, {From: 2000, To: 2001, Month: 4, On: api.Day{Day: 1}, Save: save}}
		is(t, fmt.Sprint("of saving ", save), told(expand.From(l, 2000, 2001)), fmt.Sprintf("0 2000 2000-03-01 00:00:00 0, 1 2000 2000-04-01 00:00:00 %d, 1 2001 2001-04-01 00:00:00 %d", save, save))
	}
}

func TestTheKindOfTimeChangesNoFire(t *testing.T) {
	for _, kind := range append([]int{-1, 0, 1, 2, 3}, wild...) {
		l := rules(eu)
		l[0].At.Kind, l[1].At.Kind = kind, kind
		is(t, fmt.Sprint("of kind ", kind), told(expand.Year(l, 2024)), told(expand.Year(rules(eu), 2024)))
	}
}

func TestTimesFarOut(t *testing.T) {
	for _, sec := range append([]int{1 << 55, -1 << 55}, wild...) {
		l := []api.Rule{{From: 2000, To: 2003, Month: 3, On: api.Day{Day: 1}, At: api.At{Sec: sec}, Save: 60}, {From: 2000, To: 2003, Month: 1, On: api.Day{Day: 1}, Save: 120}}
		for y := 1999; y <= 2004; y++ {
			n := len(expand.Year(l, y))
			is(t, fmt.Sprint("fires of ", y, ", at ", sec), fmt.Sprint(n), fmt.Sprint(map[bool]int{true: 2}[2000 <= y && y <= 2003]))
		}
		if -1<<60 < sec && sec < 1<<60 {
			f := expand.From(l[:1], 2002, 2002)
			is(t, fmt.Sprint("the clock at ", sec), fmt.Sprint(f[0].At-int64(sec)), fmt.Sprint(at("2002-03-01 00:00:00")))
		}
	}
}

func TestTheExampleOfTheChapter(t *testing.T) {
	l := rules("1981 max 3 lastSun 3600u 3600 S")
	f := expand.Year(l, 2024)
	is(t, "the example", told(f), "0 2024 2024-03-31 01:00:00 3600")
	is(t, "its instant", fmt.Sprint(expand.Instant(l, f[0], 3600)), fmt.Sprint(at("2024-03-31 01:00:00")))
}

// P1402: Span.

func TestSpan(t *testing.T) {
	for _, x := range []struct{ l, want string }{
		{"2000 2010 3 1 0 0 -", "2000 2010 false"}, {"2000 2000 3 1 0 0 -", "2000 2000 false"}, {"2000 max 3 1 0 0 -", "2000 2000 true"}, {eu, "1981 1996 true"}, {us, "1967 2007 true"}, {south, "1987 1999 true"},
		// with and without an end
		{"2000 2010 3 1 0 0 -;2005 2007 3 1 0 0 -", "2000 2010 false"}, {"2005 2007 3 1 0 0 -;2000 2010 3 1 0 0 -", "2000 2010 false"}, {"2000 2003 3 1 0 0 -;2005 2007 3 1 0 0 -", "2000 2007 false"}, {"2000 max 3 1 0 0 -;2005 2007 3 1 0 0 -", "2000 2007 true"}, {"2000 max 3 1 0 0 -;1990 1995 3 1 0 0 -", "1990 2000 true"}, {"2000 max 3 1 0 0 -;2020 max 3 1 0 0 -", "2000 2020 true"}, {"2020 max 3 1 0 0 -;2000 max 3 1 0 0 -", "2000 2020 true"}, {"1990 1995 3 1 0 0 -;2000 max 3 1 0 0 -;1980 1985 3 1 0 0 -", "1980 2000 true"}, {"2000 2100 3 1 0 0 -;2050 max 3 1 0 0 -", "2000 2100 true"},
		// a first year that is greater than the last one
		{"2010 2000 3 1 0 0 -", "2010 2010 false"}, {"2010 2000 3 1 0 0 -;1990 1995 3 1 0 0 -", "1990 2010 false"}, {"1990 1995 3 1 0 0 -;2010 2000 3 1 0 0 -", "1990 2000 false"}, {"1990 1995 3 1 0 0 -;2010 1980 3 1 0 0 -", "1990 1995 false"}, {"1990 1985 3 1 0 0 -;2010 1980 3 1 0 0 -", "1990 1990 false"}, {"10001 max 3 1 0 0 -", "10001 10001 true"}, {"2000 2005 3 1 0 0 -;10001 max 3 1 0 0 -", "2000 10001 true"},
		// a first one that stands behind the others
		{"2010 2000 3 1 0 0 -;1990 max 3 1 0 0 -", "1990 2010 true"}, {"2000 max 3 1 0 0 -;1990 1991 3 1 0 0 -;1980 max 3 1 0 0 -", "1980 2000 true"}, {"2020 2021 3 1 0 0 -;1990 1991 3 1 0 0 -", "1990 2021 false"}, {"2020 2019 3 1 0 0 -;1990 2018 3 1 0 0 -", "1990 2020 false"},
		// years that no rule fires in
		{"-5 -3 3 1 0 0 -", "-5 -3 false"}, {"0 0 3 1 0 0 -", "0 0 false"}, {"-5 max 3 1 0 0 -", "-5 -5 true"}, {"-5 max 3 1 0 0 -;-9 -7 3 1 0 0 -", "-9 -5 true"}, {"1 9999 3 1 0 0 -", "1 9999 false"}, {"10000 10001 3 1 0 0 -", "10000 10001 false"}, {"2000 10001 3 1 0 0 -", "2000 10001 false"}, {"2000 9999 3 1 0 0 -", "2000 9999 false"}, {"10000 max 3 1 0 0 -", "10000 10000 true"}, {"20000 30000 3 1 0 0 -", "20000 30000 false"},
		// days that are none
		{"2000 2010 2 30 0 0 -", "2000 2010 false"}, {"2000 2010 2 30 0 0 -;1990 max 13 1 0 0 -", "1990 2010 true"},
	} {
		is(t, "Span of "+x.l, toldSpan(expand.Span(rules(x.l))), x.want)
		is(t, "the model's span of "+x.l, toldSpan(span(rules(x.l))), x.want)
	}
}

func TestSpanOfAnyYears(t *testing.T) {
	years := append([]int{-1, 0, 1, 2000, 2001, 9999}, wild...)
	for _, a := range years {
		for _, b := range years {
			l := []api.Rule{{From: a, To: b}}
			is(t, fmt.Sprint("Span of ", a, " to ", b), toldSpan(expand.Span(l)), toldSpan(span(l)))
			for _, c := range years {
				l := []api.Rule{{From: 5, To: c}, {From: a, To: b}, {From: b, To: c}}
				same(t, fmt.Sprint("Span of 5 ", c, " ", a, " ", b, " ", b, " ", c), toldSpan(expand.Span(l)), toldSpan(span(l)))
			}
		}
	}
}

// P1403: Instant, Letter.

func TestInstant(t *testing.T) {
	l := rules("2000 2000 3 1 0 60 -;2000 2000 3 1 0s 60 -;2000 2000 3 1 0u 60 -")
	for _, kind := range append([]int{-1, 3, 4, 256}, wild...) {
		l = append(l, api.Rule{At: api.At{Kind: kind}})
	}
	for _, x := range []struct {
		at                        int64
		before, off               int
		wall, standard, universal int64
	}{
		{0, 0, 0, 0, 0, 0}, {1000, 0, 0, 1000, 1000, 1000}, {1000, 1, 10, 989, 990, 1000}, {1000, -1, 10, 991, 990, 1000}, {1000, 1, -10, 1009, 1010, 1000}, {1000, -1, -10, 1011, 1010, 1000}, {-1000, 1, 10, -1011, -1010, -1000}, {-1000, -1, -10, -989, -990, -1000},
		{1711846800, 3600, 3600, 1711839600, 1711843200, 1711846800}, {1711846800, 0, -18000, 1711864800, 1711864800, 1711846800}, {1711846800, 3600, 0, 1711843200, 1711846800, 1711846800}, {0, 86400, 86400, -172800, -86400, 0}, {0, -86400, -86400, 172800, 86400, 0},
		{math.MaxInt64, 0, 0, math.MaxInt64, math.MaxInt64, math.MaxInt64}, {math.MaxInt64, 7, 9, math.MaxInt64 - 16, math.MaxInt64 - 9, math.MaxInt64}, {math.MinInt64, 0, 0, math.MinInt64, math.MinInt64, math.MinInt64}, {math.MinInt64, -7, -9, math.MinInt64 + 16, math.MinInt64 + 9, math.MinInt64}, {0, 0, math.MaxInt, -math.MaxInt64, -math.MaxInt64, 0}, {-1, 0, math.MinInt, math.MaxInt64, math.MaxInt64, -1}, {0, math.MaxInt, 0, -math.MaxInt64, 0, 0}, {0, math.MaxInt32 + 1, math.MaxInt32 + 1, -1 << 32, -1 << 31, 0},
	} {
		for i := range l {
			want := x.universal
			if i == 0 {
				want = x.wall
			} else if i == 1 {
				want = x.standard
			}
			for _, year := range []int{0, 2000, 2001, math.MinInt} {
				got := expand.Instant(l, expand.Fire{I: i, Year: year, At: x.at, Before: x.before}, x.off)
				is(t, fmt.Sprint("Instant of ", x.at, ", ", x.before, " ahead, at ", x.off, ", kind ", l[i].At.Kind), fmt.Sprint(got), fmt.Sprint(want))
			}
		}
		for _, i := range append([]int{-1, -2, -len(l), len(l), len(l) + 1, 100}, wild...) {
			is(t, fmt.Sprint("Instant of place ", i), fmt.Sprint(expand.Instant(l, expand.Fire{I: i, Year: 2000, At: x.at, Before: x.before}, x.off)), "0")
		}
		is(t, "Instant of a place that only spare room has", fmt.Sprint(expand.Instant(l[:1], expand.Fire{I: 1, At: x.at}, x.off)), "0")
	}
}

func TestInstantsOfFires(t *testing.T) {
	for _, x := range []struct {
		l    string
		y    int
		off  int
		want string
	}{
		{eu, 2024, 3600, "2024-03-31 01:00:00 2024-10-27 01:00:00"}, {us, 2024, -18000, "2024-03-10 07:00:00 2024-11-03 06:00:00"}, {south, 1991, 36000, "1991-03-30 16:00:00 1991-10-26 16:00:00"},
		{"1990 max 3 1 0 7200 -;1990 max 9 1 0s -3600 -", 2024, 3600, "2024-03-01 00:00:00 2024-08-31 23:00:00"}, {"1990 max 3 1 0 7200 -;1990 max 9 1 0 -3600 -", 2024, 3600, "2024-03-01 00:00:00 2024-08-31 21:00:00"}, {"1990 max 3 1 0 7200 -;1990 max 9 1 0u -3600 -", 2024, 3600, "2024-03-01 00:00:00 2024-09-01 00:00:00"}, {"2024 max 3 1 -3600 7200 -;2024 max 9 1 90000 0 -", 2024, -3600, "2024-03-01 00:00:00 2024-09-02 00:00:00"},
	} {
		l := rules(x.l)
		var s []string
		for _, f := range expand.Year(l, x.y) {
			s = append(s, time.Unix(expand.Instant(l, f, x.off), 0).UTC().Format(clockForm))
		}
		is(t, fmt.Sprint("instants of ", x.y, " at ", x.off, " of ", x.l), strings.Join(s, " "), x.want)
	}
}

func TestLetter(t *testing.T) {
	for _, x := range []struct{ l, want string }{
		{eu, ""}, {us, "S"}, {"1996 max 10 lastSun 3600u 0 W;1981 max 3 lastSun 3600u 3600 S", "W"}, {"1981 max 3 lastSun 3600u 3600 S;1996 max 10 lastSun 3600u 0 W", "W"},
		// no rule without saving
		{"1981 max 3 lastSun 3600u 3600 S", ""}, {"2000 2000 3 1 0 1 S;2000 2000 3 1 0 -1 T", ""},
		// several
		{"1990 1991 3 1 0 0 A;1980 1981 3 1 0 0 B;1985 1986 3 1 0 0 C", "B"}, {"1980 1981 3 1 0 0 A;1985 1986 3 1 0 0 B;1990 1991 3 1 0 0 C", "A"}, {"1990 1991 3 1 0 0 A;1985 1986 3 1 0 0 B;1980 1981 3 1 0 0 C", "C"}, {"1980 1980 12 31 604799 0 A;1981 1981 1 1 -604799 0 B", "A"}, {"1981 1981 1 1 -604799 0 A;1980 1980 12 31 604799 0 B", "B"}, {"1990 1990 3 1 0 0 A;1980 1980 3 1 0 60 B", "A"}, {"1990 1990 3 1 0 0 A;1980 1980 3 1 0 0 -", ""}, {"1980 1980 3 1 0 -3600 A;1990 1990 3 1 0 0 B", "B"},
		// the same first year
		{"1980 max 10 1 0 0 A;1980 max 3 1 0 0 B", "B"}, {"1980 max 3 1 0 0 A;1980 max 10 1 0 0 B", "A"}, {"1980 max 3 1 1 0 A;1980 max 3 1 0 0 B", "B"}, {"1980 max 3 1 0 0 A;1980 max 3 1 0 0 B", "A"}, {"1980 max 3 1 0 0 A;1980 max 3 1 0 0 B;1980 max 3 1 -1 0 C", "C"}, {"1980 max 4 1 -86400 0 A;1980 max 3 31 0 0 B", "A"}, {"1980 max 4 1 -86401 0 A;1980 max 3 31 0 0 B", "A"}, {"1980 max 3 31 0 0 A;1980 max 4 1 -86401 0 B", "B"}, {"1980 max 3 1 0s 0 A;1980 max 3 1 0u 0 B", "A"}, {"1980 max 3 1 7200u 0 A;1980 max 3 1 3600 0 B", "B"}, {"1980 1980 3 1 0 60 A;1980 1980 4 1 0 0 B;1980 1980 3 2 0 0 C", "C"},
		// those that never fire
		{"1980 max 2 30 0 0 A;1990 max 3 1 0 0 B", "B"}, {"1980 max 13 1 0 0 A;1990 max 3 1 0 0 B", "B"}, {"1980 max 3 4/1/0 0 0 A;1990 max 3 1 0 0 B", "B"}, {"1980 1979 3 1 0 0 A;1990 max 3 1 0 0 B", "B"}, {"-5 0 3 1 0 0 A;1990 max 3 1 0 0 B", "B"}, {"10000 max 3 1 0 0 A", ""}, {"1980 max 2 30 0 0 A", ""}, {"1980 1979 3 1 0 0 A", ""}, {"1981 1983 2 29 0 0 A", ""}, {"1897 1903 2 29 0 0 A;9999 9999 12 31 0 0 B", "B"}, {"9997 max 2 29 0 0 A", ""},
		// those whose first fire lies years behind their first year
		{"1897 max 2 29 0 0 A", "A"}, {"1897 1904 2 29 0 0 A", "A"}, {"1897 max 2 29 0 0 A;1900 max 3 1 0 0 B", "B"}, {"1897 max 2 29 0 0 A;1903 max 12 31 0 0 B", "B"}, {"1897 max 2 29 0 0 A;1904 max 3 1 0 0 B", "A"}, {"1897 max 2 29 0 0 A;1904 max 2 28 0 0 B", "B"}, {"1904 max 3 1 0 0 A;1897 max 2 29 0 0 B", "B"}, {"1900 max 2 Sun>=29 0 0 A;1904 max 2 29 0 0 B", "B"}, {"1897 max 2 Mon<=29 0 0 A;1904 max 2 29 0 0 B", "A"}, {"1898 max 2 29 0 0 A;1897 max 2 29 0 0 B", "A"}, {"2097 max 2 29 0 0 A;2103 2103 12 31 0 0 B", "B"}, {"2097 max 2 29 0 0 A;2105 2105 1 1 0 0 B", "A"},
		// years ahead of 1
		{"1 max 3 1 0 0 A;-5 max 10 1 0 0 B", "A"}, {"-5 max 10 1 0 0 A;1 max 3 1 0 0 B", "B"}, {"-5 max 3 1 0 0 A;1 max 3 1 0 0 B", "A"}, {"-9 max 2 29 0 0 A;4 max 1 1 0 0 B", "B"}, {"-9 max 2 29 0 0 A;4 max 3 1 0 0 B", "A"}, {"9999 9999 3 1 0 0 A;10000 max 3 1 0 0 B", "A"},
	} {
		is(t, "Letter of "+x.l, expand.Letter(rules(x.l)), x.want)
		is(t, "the model's letter of "+x.l, letter(rules(x.l), history(rules(x.l), 9999)), x.want)
	}
	for _, r := range never() {
		r.Save, r.Letter = 0, "N"
		is(t, fmt.Sprint("Letter of ", r), expand.Letter([]api.Rule{r}), "")
	}
	for _, s := range []string{"S", "%s", "\x00", "\xff", "é", strings.Repeat("x", 1<<16), " "} {
		is(t, "any letter", expand.Letter([]api.Rule{{From: 1, To: 1, Month: 1, On: api.Day{Day: 1}, Letter: s}}), s)
	}
}

func TestLetterOfWildYears(t *testing.T) {
	for _, from := range wild {
		for _, to := range wild {
			l := []api.Rule{{From: from, To: to, Month: 12, On: api.Day{Day: 31}, Letter: "A"}, {From: 9999, To: 9999, Month: 3, On: api.Day{Day: 1}, Letter: "B"}}
			is(t, fmt.Sprint("Letter of ", l), expand.Letter(l), letter(l, history(l, 9999)))
		}
	}
}

// P1404: laws.

func TestStretchesOneBehindTheOther(t *testing.T) {
	r := rand.New(rand.NewSource(4))
	for range 3000 {
		about := anyOf(r, 1, 4, 1900, 1970, 2000, 2100, 9990)
		l := anyRules(r, 5, about)
		a := about + r.Intn(40) - 20
		b := a + r.Intn(20) - 1
		c := b + r.Intn(20)
		both := append(expand.From(l, a, b), expand.From(l, b+1, c)...)
		same(t, fmt.Sprint("From ", a, " to ", b, " to ", c, " of ", l), told(both), told(expand.From(l, a, c)))
		var years []expand.Fire
		for y := a; y <= c; y++ {
			years = append(years, expand.Year(l, y)...)
		}
		same(t, fmt.Sprint("each year from ", a, " to ", c, " of ", l), told(years), told(expand.From(l, a, c)))
	}
}

func TestAllYearsCutAnywhere(t *testing.T) {
	l := append(rules(us), rules("3 max 2 29 86400s 1 -;9000 9100 12 Sat>=31 -3600 -3600 X")...)
	all := expand.From(l, 1, 9999)
	for _, y := range []int{math.MinInt, -1, 0, 1, 2, 3, 4, 5, 8, 1899, 1900, 1904, 1966, 1967, 2006, 2007, 8999, 9000, 9100, 9101, 9998, 9999, 10000, math.MaxInt - 1} {
		same(t, fmt.Sprint("all years, cut behind ", y), told(append(expand.From(l, math.MinInt, y), expand.From(l, y+1, math.MaxInt)...)), told(all))
	}
}

// What is shared.

func TestAnswersAreTheCallers(t *testing.T) {
	l := rules(us)
	for _, ask := range []func() []expand.Fire{
		func() []expand.Fire { return expand.Year(l, 1974) }, func() []expand.Fire { return expand.From(l, 1974, 1976) }, func() []expand.Fire { return expand.From(l, 1, 9999) },
	} {
		first := ask()
		want := told(first)
		other := ask()
		whole := first[:cap(first)]
		for i := range whole {
			whole[i] = expand.Fire{I: -1, Year: -1, At: -1, Before: -1}
		}
		is(t, "an answer beside a changed one", told(other), want)
		is(t, "an answer behind a changed one", told(ask()), want)
	}
}

func TestWhatIsGivenStaysAsItWas(t *testing.T) {
	room := rules(us + ";" + south + ";" + eu)
	kept := slices.Clone(room)
	for n := range len(room) + 1 {
		l := room[:n]
		for _, y := range []int{1, 1967, 1974, 1988, 2007, 9999} {
			for _, f := range expand.Year(l, y) {
				expand.Instant(l, f, 3600)
			}
			expand.From(l, y, y+3)
		}
		expand.Span(l)
		expand.Letter(l)
		if !slices.Equal(room, kept) {
			t.Fatalf("of %d rules some have changed: %v", n, room)
		}
	}
}

func TestACallKeepsNoRule(t *testing.T) {
	l := rules(eu)
	before := told(expand.Year(l, 2024)) + toldSpan(expand.Span(l)) + expand.Letter(l)
	f := expand.Year(l, 2024)
	for i := range l {
		l[i] = rule("2024 2024 6 1 0 1800 X")
	}
	is(t, "an answer behind a change of the rules", told(f), "0 2024 2024-03-31 01:00:00 0, 1 2024 2024-10-27 01:00:00 3600")
	is(t, "other rules in their places", told(expand.Year(l, 2024)), "0 2024 2024-06-01 00:00:00 0, 1 2024 2024-06-01 00:00:00 1800")
	copy(l, rules(eu))
	is(t, "the same rules again", told(expand.Year(l, 2024))+toldSpan(expand.Span(l))+expand.Letter(l), before)
}
