package dayform_test

import (
	"fmt"
	"math"
	"math/rand"
	"strings"
	"testing"
	"time"

	"noonmark/api"
	"noonmark/civil"
	"noonmark/dayform"
)

func is(t *testing.T, what, got, want string) {
	t.Helper()
	if got != want {
		t.Errorf("%.80s: %s, not %s", what, got, want)
	}
}

// same is for long loops: it stops at the first fault.
func same(t *testing.T, what, got, want string) {
	t.Helper()
	if got != want {
		t.Fatalf("%.80s: %s, not %s", what, got, want)
	}
}

// toldDay, toldText, toldNumber: an answer as a text.

func toldDay(d api.Day, k api.Kind) string {
	return fmt.Sprint(d.Kind, " ", d.Day, " ", d.Week, " ", int(k))
}

func toldText(s string, k api.Kind) string { return fmt.Sprintf("%q %d", s, int(k)) }

func toldNumber(n int64, k api.Kind) string { return fmt.Sprint(n, " ", int(k)) }

func parsed(s string) string { return toldDay(dayform.Parse(s)) }

func shown(d api.Day) string { return toldText(dayform.Show(d)) }

func of(d api.Day, y, m int) string { return toldNumber(dayform.Of(d, y, m)) }

const (
	noDay    = "0 0 0 6" // of Parse
	noText   = `"" 1`    // of Show
	notRight = "0 1"     // of Of: no right day
	noNumber = "0 6"     // of Of: no day of that month
)

const (
	firstDay = -4371587 // January 1, -9999, a Monday
	lastDay  = 2932896  // December 31, 9999, a Friday
)

// wild: numbers that are no day of a month, no day of the week, no kind of a day, no year and no month; some would be, if their high bits were dropped.
var wild = []int{
	math.MinInt, math.MinInt + 1, math.MinInt + 2, math.MinInt + 3, math.MinInt + 8, math.MinInt + 31, math.MinInt32, math.MinInt32 + 1, -1 << 32, -1<<32 + 1, -1 << 53, -65536, -65535, -10001, -10000,
	10000, 10001, 65536, 65537, 65538, 65539, 146097, 1 << 32, 1<<32 + 1, 1<<32 + 2, 1 << 53, math.MaxInt32, math.MaxInt32 + 1, math.MaxInt - 31, math.MaxInt - 7, math.MaxInt - 1, math.MaxInt,
}

// names: of the days of the week.
func names() []string { return strings.Fields("Sun Mon Tue Wed Thu Fri Sat") }

// model: every text of a day, with the day.
func model() map[string]api.Day {
	days := map[string]api.Day{}
	for day := 1; day <= 31; day++ {
		days[fmt.Sprint(day)] = api.Day{Day: day}
		for week, name := range names() {
			days["last"+name] = api.Day{Kind: 1, Week: week}
			days[fmt.Sprint(name, ">=", day)] = api.Day{Kind: 2, Day: day, Week: week}
			days[fmt.Sprint(name, "<=", day)] = api.Day{Kind: 3, Day: day, Week: week}
		}
	}
	return days
}

// modelTexts: every right day, with its text.
func modelTexts() map[api.Day]string {
	texts := map[api.Day]string{}
	for s, d := range model() {
		texts[d] = s
	}
	return texts
}

// asTheModel: what Parse answers of any text.
func asTheModel(t *testing.T, days map[string]api.Day, s string) {
	t.Helper()
	want := noDay
	if d, ok := days[s]; ok {
		want = toldDay(d, api.OK)
	}
	same(t, fmt.Sprintf("Parse of %q", s), parsed(s), want)
}

// numberOf: a date's number, by the library's calendar, which knows days beyond a month's end as those of the next.
func numberOf(y, m, d int) int64 {
	return time.Date(y, time.Month(m), d, 0, 0, 0, 0, time.UTC).Unix() / 86400
}

func weekOf(n int64) int { return int(time.Unix(n*86400, 0).UTC().Weekday()) }

// ofModel: what Of answers of a right day, by going from day to day.
func ofModel(d api.Day, y, m int) string {
	if y < -9999 || y > 9999 || m < 1 || m > 12 {
		return noNumber
	}
	n, step := numberOf(y, m, d.Day), int64(1)
	if d.Kind == 1 {
		n = numberOf(y, m+1, 1) - 1
	} else if n >= numberOf(y, m+1, 1) {
		return noNumber
	}
	if d.Kind == 1 || d.Kind == 3 {
		step = -1
	}
	for d.Kind != 0 && weekOf(n) != d.Week {
		n += step
	}
	return toldNumber(n, api.OK)
}

func asTheModelOf(t *testing.T, d api.Day, y, m int) {
	t.Helper()
	if got, want := of(d, y, m), ofModel(d, y, m); got != want {
		t.Fatalf("Of %v in %d %d: %s, not %s", d, y, m, got, want)
	}
}

// years: leap years and others, of hundreds and of four hundreds, and the calendar's ends.
var years = []int{-9999, -9998, -9997, -9996, -9900, -9600, -401, -400, -101, -100, -99, -4, -1, 0, 1, 2, 3, 4, 100, 400, 1582, 1600, 1900, 1968, 1969, 1970, 1972, 2000, 2001, 2023, 2024, 2025, 2026, 2027, 2028, 2100, 2400, 9600, 9900, 9996, 9997, 9998, 9999}

// P601: Parse, Show.

func TestTextsOfDays(t *testing.T) {
	for _, x := range []struct{ s, want string }{
		{"1", "0 1 0"}, {"2", "0 2 0"}, {"9", "0 9 0"}, {"10", "0 10 0"}, {"11", "0 11 0"}, {"19", "0 19 0"}, {"20", "0 20 0"}, {"28", "0 28 0"}, {"29", "0 29 0"}, {"30", "0 30 0"}, {"31", "0 31 0"},
		{"lastSun", "1 0 0"}, {"lastMon", "1 0 1"}, {"lastTue", "1 0 2"}, {"lastWed", "1 0 3"}, {"lastThu", "1 0 4"}, {"lastFri", "1 0 5"}, {"lastSat", "1 0 6"},
		{"Sun>=8", "2 8 0"}, {"Sun>=1", "2 1 0"}, {"Mon>=9", "2 9 1"}, {"Tue>=10", "2 10 2"}, {"Wed>=15", "2 15 3"}, {"Thu>=22", "2 22 4"}, {"Fri>=29", "2 29 5"}, {"Sat>=31", "2 31 6"},
		{"Sun<=25", "3 25 0"}, {"Sun<=31", "3 31 0"}, {"Mon<=1", "3 1 1"}, {"Tue<=2", "3 2 2"}, {"Wed<=9", "3 9 3"}, {"Thu<=10", "3 10 4"}, {"Fri<=20", "3 20 5"}, {"Sat<=30", "3 30 6"},
	} {
		is(t, "Parse of "+x.s, parsed(x.s), x.want+" 0")
	}
}

func TestTextsThatAreNone(t *testing.T) {
	for _, s := range []string{
		"", " ", "0", "00", "01", "02", "09", "010", "031", "001", "32", "33", "39", "40", "99", "100", "101", "110", "131", "310", "311", "1000", "256", "257", "65537", "4294967297", "18446744073709551617",
		"-", "+", "-1", "+1", "-0", "+0", "--1", "-31", "+31", "- 1", "1-", "1+", "1-2", "1.", "1.0", "1,", "1e1", "0x1", "1_0", "1st", "a", "1a", "a1", "/", "1/", "/1", ":", "1:", ":1", "３", "٣", "1٣", "\xb1", "1\xb1",
		" 1", "1 ", "\t1", "1\t", "1\n", "\n1", "1\r", "1\x00", "\x001", "1 0", "3 1", "1\u00a0", "1\v", "1\f",
	} {
		is(t, fmt.Sprintf("Parse of %q", s), parsed(s), noDay)
	}
}

func TestNamesThatAreNone(t *testing.T) {
	for week, name := range names() {
		for _, x := range []string{
			"", "S", name[:1], name[:2], name[1:], name + "d", name + "day", name + "s", name + ".", name + name, strings.ToLower(name), strings.ToUpper(name), strings.ToLower(name[:1]) + strings.ToUpper(name[1:]), name[:2] + strings.ToUpper(name[2:]),
			[]string{"Sunday", "Monday", "Tuesday", "Wednesday", "Thursday", "Friday", "Saturday"}[week], "Su", "Tues", "Thur", "Thurs", "Day", "last", "first", "Last", "0", "32", " " + name, name + " ", "\t" + name, name + "\n", name + "\x00", "-" + name, "+" + name, "=" + name, "Jan",
		} {
			for _, s := range []string{x, "last" + x, x + ">=8", x + "<=25"} {
				is(t, fmt.Sprintf("Parse of %q", s), parsed(s), noDay)
			}
		}
		is(t, "Parse of "+name, parsed(name), noDay)
	}
}

func TestLastThatIsNone(t *testing.T) {
	for _, s := range []string{"last", "Last", "LAST", "las", "lasts", "lastlast", "last1", "last8", "last31", "last0", "last ", " last", "last\n", "last>=8", "last<=8", "last>=", "last="} {
		is(t, fmt.Sprintf("Parse of %q", s), parsed(s), noDay)
	}
	for _, name := range names() {
		for _, head := range []string{"Last", "LAST", "lasT", "las", "ast", "lastt", "last ", "last\t", "last-", "last+", "last=", "last>=", "last<=", "lastlast", "last last", " last", "\tlast", "1last", "last1", "first", "-last", "last" + name, "last\u00a0"} {
			is(t, fmt.Sprintf("Parse of %q", head+name), parsed(head+name), noDay)
		}
		for _, tail := range []string{" ", "\t", "\n", "\r", "\x00", "day", "s", "1", "8", ">=8", "<=8", ">=", "<=", "=", "last", name, ",", "."} {
			is(t, fmt.Sprintf("Parse of %q", "last"+name+tail), parsed("last"+name+tail), noDay)
		}
	}
}

func TestMarksThatAreNone(t *testing.T) {
	for _, name := range names() {
		for _, mark := range []string{"", ">", "<", "=", "=>", "=<", "<>", "><", "==", "!=", ">>", "<<", ">==", "<==", ">>=", "<<=", "<=>", ">=<=", "<=>=", ">=>=", "<=<=", "> =", "< =", " >=", ">= ", " <=", "<= ", "\t>=", ">=\t", "≥", "≤", "-", "+", ">=-", ">=+", "<=-", "<=+", ">=0", "<=0", ">=" + name, "<=" + name, " ", ":"} {
			for _, digits := range []string{"8", "25", "1", "31"} {
				is(t, fmt.Sprintf("Parse of %q", name+mark+digits), parsed(name+mark+digits), noDay)
			}
		}
	}
}

func TestNumbersThatAreNone(t *testing.T) {
	for _, name := range names() {
		for _, mark := range []string{">=", "<="} {
			for _, digits := range []string{"", "0", "00", "01", "08", "031", "008", "32", "33", "99", "100", "310", "256", "257", "4294967304", "18446744073709551624", "-1", "+1", "-8", "+8", "8 ", " 8", "8\t", "8\n", "8\x00", "8x", "8.", "8,", "8.0", "0x8", "8e0", "1_0", "1 0", "x", "８", "8>=", "8<=", "8>=8", "8<=8", "last", "8last", name, "8" + name, "8" + mark + "8", mark, mark + "8"} {
				is(t, fmt.Sprintf("Parse of %q", name+mark+digits), parsed(name+mark+digits), noDay)
			}
		}
	}
}

func TestWhiteAboutATextAndInIt(t *testing.T) {
	for s := range model() {
		for _, white := range []string{" ", "  ", "\t", "\n", "\r", "\v", "\f", "\x00", "\u00a0", "\u3000"} {
			for i := range len(s) + 1 {
				same(t, fmt.Sprintf("Parse of %q with %q at %d", s, white, i), parsed(s[:i]+white+s[i:]), noDay)
			}
		}
	}
}

func TestEveryTextThatIsOne(t *testing.T) {
	days := model()
	if len(days) != 31+7+2*7*31 {
		t.Fatalf("the model has %d texts", len(days))
	}
	for s := range days {
		asTheModel(t, days, s)
	}
}

func TestEveryNumber(t *testing.T) {
	days := model()
	for n := -1200; n <= 12000; n++ {
		for _, form := range []string{"%d", "%02d", "%03d", "%+d", "%d ", "Sun>=%d", "Sat<=%d", "Mon>=%02d", "Fri<=%03d", "Wed>=%+d", "last%d", "lastSun%d", "Sun%d", "Sun>%d", "Sun=%d"} {
			asTheModel(t, days, fmt.Sprintf(form, n))
		}
	}
}

func TestPartsRightAndWrong(t *testing.T) {
	days := model()
	heads := []string{"", "last", "Last", "las", "l", " ", "-", "1", "Sun", ">=", "<="}
	names := append(names(), "", "sun", "SUN", "Su", "un", "Sund", "Sunday", "Sux", "mon", "Mond", "xxx", "8", "last", " ")
	marks := []string{"", ">=", "<=", ">", "<", "=", "=>", "=<", "==", "> =", ">==", "<>"}
	tails := []string{"", "0", "1", "8", "9", "08", "10", "25", "29", "31", "32", "99", "100", "-1", "+1", " 8", "8 ", "8x", "Sun", "lastSun", ">=8", "last"}
	for _, head := range heads {
		for _, name := range names {
			for _, mark := range marks {
				for _, tail := range tails {
					asTheModel(t, days, head+name+mark+tail)
				}
			}
		}
	}
}

// everyText calls f with every text of at most n of these parts.
func everyText(n int, parts []string, f func(s string)) {
	f("")
	if n == 0 {
		return
	}
	for _, x := range parts {
		everyText(n-1, parts, func(s string) { f(x + s) })
	}
}

func TestEveryShortText(t *testing.T) {
	days := model()
	everyText(5, strings.Split("0 1 2 3 9 - + < > = a", " "), func(s string) { asTheModel(t, days, s) })
	everyText(4, []string{"last", "Sun", "Mon", "Sat", ">=", "<=", ">", "<", "=", "0", "1", "3", "8", " ", "S", "t"}, func(s string) { asTheModel(t, days, s) })
}

func TestEveryTextOfTwoBytes(t *testing.T) {
	days := model()
	for a := range 256 {
		asTheModel(t, days, string([]byte{byte(a)}))
		for b := range 256 {
			asTheModel(t, days, string([]byte{byte(a), byte(b)}))
		}
	}
}

func TestEveryNameOfThreeLetters(t *testing.T) {
	days := model()
	const letters = "SMTWFuoehrnditasmUNA"
	for _, a := range letters {
		for _, b := range letters {
			for _, c := range letters {
				name := string([]rune{a, b, c})
				for _, s := range []string{name, "last" + name, name + ">=8", name + "<=31"} {
					asTheModel(t, days, s)
				}
			}
		}
	}
}

func TestEveryByteAtEveryPlace(t *testing.T) {
	days := model()
	for _, s := range []string{"1", "9", "10", "31", "lastSun", "lastWed", "Sun>=8", "Thu>=31", "Mon<=25", "Sat<=1", "Fri>=29", "Tue<=10"} {
		for i := range len(s) + 1 {
			for c := range 256 {
				between := s[:i] + string([]byte{byte(c)})
				asTheModel(t, days, between+s[i:])
				if i < len(s) {
					asTheModel(t, days, between+s[i+1:])
				}
			}
			if i < len(s) {
				asTheModel(t, days, s[:i]+s[i+1:])
			}
		}
	}
}

func TestLongTexts(t *testing.T) {
	for _, s := range []string{"0", "1", "9", "-", "+", ">=", "<=", "last", "Sun", "lastSun", "Sun>=8", ">=8", " ", "\x00", "\xff"} {
		for _, n := range []int{5, 20, 255, 256, 257, 65536, 1 << 20} {
			long := strings.Repeat(s, n)
			for _, x := range []string{long, "1" + long, "last" + long, "lastSun" + long, "Sun>=" + long, "Sun<=" + long, "Sun>=8" + long, long + "Sun>=8", long + "8", "Sun" + long + "8", long + "lastSun"} {
				is(t, "Parse of "+x, parsed(x), noDay)
			}
		}
	}
}

func TestShowOfOrdinaryDays(t *testing.T) {
	for _, x := range []struct {
		kind, day, week int
		want            string
	}{
		{0, 1, 0, "1"}, {0, 9, 0, "9"}, {0, 10, 0, "10"}, {0, 15, 0, "15"}, {0, 30, 0, "30"}, {0, 31, 0, "31"},
		{1, 0, 0, "lastSun"}, {1, 0, 1, "lastMon"}, {1, 0, 2, "lastTue"}, {1, 0, 3, "lastWed"}, {1, 0, 4, "lastThu"}, {1, 0, 5, "lastFri"}, {1, 0, 6, "lastSat"},
		{2, 1, 0, "Sun>=1"}, {2, 8, 0, "Sun>=8"}, {2, 31, 6, "Sat>=31"}, {2, 10, 3, "Wed>=10"}, {3, 1, 0, "Sun<=1"}, {3, 25, 0, "Sun<=25"}, {3, 31, 6, "Sat<=31"}, {3, 9, 5, "Fri<=9"},
	} {
		d := api.Day{Kind: x.kind, Day: x.day, Week: x.week}
		is(t, fmt.Sprint("Show of ", d), shown(d), fmt.Sprintf("%q 0", x.want))
	}
}

func TestShowAtItsEdges(t *testing.T) {
	for _, d := range []api.Day{
		{}, {Kind: 0, Day: 32}, {Kind: 0, Day: -1}, {Kind: 0, Day: 1, Week: 1}, {Kind: 0, Day: 31, Week: 6}, {Kind: 0, Day: 1, Week: -1}, {Kind: 0, Week: 1},
		{Kind: 1, Week: -1}, {Kind: 1, Week: 7}, {Kind: 1, Day: 1}, {Kind: 1, Day: 31, Week: 6}, {Kind: 1, Day: -1}, {Kind: 1, Day: 32, Week: 7},
		{Kind: 2}, {Kind: 2, Day: 32}, {Kind: 2, Day: -1}, {Kind: 2, Day: 1, Week: -1}, {Kind: 2, Day: 31, Week: 7}, {Kind: 2, Week: 6},
		{Kind: 3}, {Kind: 3, Day: 32}, {Kind: 3, Day: -1}, {Kind: 3, Day: 1, Week: -1}, {Kind: 3, Day: 31, Week: 7}, {Kind: 3, Week: 6},
		{Kind: -1}, {Kind: -1, Day: 1}, {Kind: -1, Day: 8, Week: 1}, {Kind: 4}, {Kind: 4, Day: 1}, {Kind: 4, Day: 8, Week: 1}, {Kind: 5, Day: 1}, {Kind: 256, Day: 1}, {Kind: 257},
	} {
		is(t, fmt.Sprint("Show of ", d), shown(d), noText)
	}
}

// everyDay calls f with all days about the right ones, and with wild ones.
func everyDay(f func(d api.Day)) {
	kinds := append([]int{-2, -1, 0, 1, 2, 3, 4, 5, 6}, wild...)
	days := append([]int{-31, -8}, wild...)
	for day := -3; day <= 64; day++ {
		days = append(days, day)
	}
	weeks := append([]int{-7, -6, -2, -1, 0, 1, 2, 3, 4, 5, 6, 7, 8, 13, 14}, wild...)
	for _, kind := range kinds {
		for _, day := range days {
			for _, week := range weeks {
				f(api.Day{Kind: kind, Day: day, Week: week})
			}
		}
	}
}

func TestShowOfEveryDayAndManyMore(t *testing.T) {
	texts := modelTexts()
	right := 0
	everyDay(func(d api.Day) {
		want := noText
		if s, ok := texts[d]; ok {
			want = fmt.Sprintf("%q 0", s)
			right++
		}
		same(t, fmt.Sprint("Show of ", d), shown(d), want)
	})
	is(t, "how many days are right", fmt.Sprint(right), fmt.Sprint(len(texts)))
}

func TestADayIsReadAsItWas(t *testing.T) {
	everyDay(func(d api.Day) {
		s, k := dayform.Show(d)
		if k != api.OK {
			return
		}
		same(t, fmt.Sprintf("Parse of %q, shown of %v", s, d), parsed(s), toldDay(d, api.OK))
	})
}

func TestWhatIsReadIsShownAsItWas(t *testing.T) {
	read := 0
	try := func(s string) {
		d, k := dayform.Parse(s)
		if k != api.OK {
			return
		}
		read++
		same(t, fmt.Sprintf("Show of %v, read of %q", d, s), shown(d), fmt.Sprintf("%q 0", s))
	}
	everyText(4, append(names(), "last", ">=", "<=", "0", "1", "2", "3", "8", "9"), try)
	days := model()
	for s := range days {
		try(s)
	}
	if read < len(days) {
		t.Errorf("only %d texts are read", read)
	}
}

// P602: Of.

func TestOfOrdinaryDays(t *testing.T) {
	for _, x := range []struct {
		s       string
		y, m    int
		n       int64
		y1      int
		m1, day int
	}{
		{"lastSun", 2024, 3, 19813, 2024, 3, 31}, {"Sun>=8", 2024, 3, 19792, 2024, 3, 10}, {"Sun<=25", 2024, 3, 19806, 2024, 3, 24},
		{"1", 1970, 1, 0, 1970, 1, 1}, {"31", 1969, 12, -1, 1969, 12, 31}, {"29", 2024, 2, 19782, 2024, 2, 29}, {"29", 2000, 2, 11016, 2000, 2, 29},
		{"Sun>=10", 2024, 3, 19792, 2024, 3, 10}, {"Sun>=4", 2024, 3, 19792, 2024, 3, 10}, {"Sun>=3", 2024, 3, 19785, 2024, 3, 3}, {"Sun>=11", 2024, 3, 19799, 2024, 3, 17},
		{"Sun<=24", 2024, 3, 19806, 2024, 3, 24}, {"Sun<=30", 2024, 3, 19806, 2024, 3, 24}, {"Sun<=31", 2024, 3, 19813, 2024, 3, 31}, {"Sun<=23", 2024, 3, 19799, 2024, 3, 17},
		{"Fri>=29", 2024, 2, 19783, 2024, 3, 1}, {"Thu>=29", 2024, 2, 19782, 2024, 2, 29}, {"Wed>=29", 2024, 2, 19788, 2024, 3, 6}, {"Wed>=28", 2023, 2, 19417, 2023, 3, 1},
		{"Sun>=31", 2023, 12, 19722, 2023, 12, 31}, {"Mon>=31", 2023, 12, 19723, 2024, 1, 1}, {"Sat>=31", 2023, 12, 19728, 2024, 1, 6},
		{"Mon<=1", 2024, 1, 19723, 2024, 1, 1}, {"Sun<=1", 2024, 1, 19722, 2023, 12, 31}, {"Tue<=1", 2024, 1, 19717, 2023, 12, 26}, {"Thu<=1", 2024, 3, 19782, 2024, 2, 29}, {"Sat<=1", 2024, 3, 19777, 2024, 2, 24},
		{"lastThu", 2024, 2, 19782, 2024, 2, 29}, {"lastWed", 2024, 2, 19781, 2024, 2, 28}, {"lastFri", 2024, 2, 19776, 2024, 2, 23}, {"lastTue", 2023, 2, 19416, 2023, 2, 28}, {"lastSun", 2023, 12, 19722, 2023, 12, 31}, {"lastMon", 2023, 12, 19716, 2023, 12, 25},
	} {
		d, _ := dayform.Parse(x.s)
		is(t, fmt.Sprint("Of ", x.s, " in ", x.y, " ", x.m), of(d, x.y, x.m), fmt.Sprint(x.n, " 0"))
		y, m, day, k := civil.Date(x.n)
		is(t, fmt.Sprint("the date of ", x.s, " in ", x.y, " ", x.m), fmt.Sprint(y, m, day, int(k)), fmt.Sprint(x.y1, x.m1, x.day, 0))
	}
}

func TestOfAtTheCalendarsEnds(t *testing.T) {
	for _, x := range []struct {
		d    api.Day
		y, m int
		n    int64
	}{
		{api.Day{Day: 1}, -9999, 1, firstDay}, {api.Day{Day: 31}, 9999, 12, lastDay},
		{api.Day{Kind: 1, Week: 5}, 9999, 12, lastDay}, {api.Day{Kind: 1, Week: 6}, 9999, 12, lastDay - 6}, {api.Day{Kind: 1, Week: 3}, -9999, 1, firstDay + 30}, {api.Day{Kind: 1, Week: 4}, -9999, 1, firstDay + 24},
		{api.Day{Kind: 2, Day: 31, Week: 5}, 9999, 12, lastDay}, {api.Day{Kind: 2, Day: 31, Week: 6}, 9999, 12, lastDay + 1}, {api.Day{Kind: 2, Day: 31, Week: 0}, 9999, 12, lastDay + 2}, {api.Day{Kind: 2, Day: 31, Week: 4}, 9999, 12, lastDay + 6}, {api.Day{Kind: 2, Day: 30, Week: 6}, 9999, 12, lastDay + 1}, {api.Day{Kind: 2, Day: 26, Week: 6}, 9999, 12, lastDay + 1}, {api.Day{Kind: 2, Day: 25, Week: 6}, 9999, 12, lastDay - 6},
		{api.Day{Kind: 3, Day: 1, Week: 1}, -9999, 1, firstDay}, {api.Day{Kind: 3, Day: 1, Week: 0}, -9999, 1, firstDay - 1}, {api.Day{Kind: 3, Day: 1, Week: 6}, -9999, 1, firstDay - 2}, {api.Day{Kind: 3, Day: 1, Week: 2}, -9999, 1, firstDay - 6}, {api.Day{Kind: 3, Day: 2, Week: 0}, -9999, 1, firstDay - 1}, {api.Day{Kind: 3, Day: 6, Week: 0}, -9999, 1, firstDay - 1}, {api.Day{Kind: 3, Day: 7, Week: 0}, -9999, 1, firstDay + 6},
		{api.Day{Kind: 2, Day: 1, Week: 1}, -9999, 1, firstDay}, {api.Day{Kind: 3, Day: 31, Week: 5}, 9999, 12, lastDay},
	} {
		is(t, fmt.Sprint("Of ", x.d, " in ", x.y, " ", x.m), of(x.d, x.y, x.m), fmt.Sprint(x.n, " 0"))
	}
	for d := range modelTexts() {
		for _, y := range []int{-10000, 10000} {
			for m := range 14 {
				same(t, fmt.Sprint("Of ", d, " in ", y, " ", m), of(d, y, m), noNumber)
			}
		}
	}
}

func TestOfADayBeyondTheMonthsEnd(t *testing.T) {
	long := []int{31, 28, 31, 30, 31, 30, 31, 31, 30, 31, 30, 31}
	for _, y := range years {
		long[1] = 28
		if y%400 == 0 || y%4 == 0 && y%100 != 0 {
			long[1] = 29
		}
		for m := 1; m <= 12; m++ {
			for day := 28; day <= 31; day++ {
				for _, kind := range []int{0, 2, 3} {
					for week := range 7 {
						d := api.Day{Kind: kind, Day: day, Week: week}
						if kind == 0 {
							d.Week = 0
						}
						if _, k := dayform.Of(d, y, m); (k == api.OK) != (day <= long[m-1]) {
							t.Fatalf("Of %v in %d %d: kind %d", d, y, m, int(k))
						}
						asTheModelOf(t, d, y, m)
					}
				}
			}
		}
	}
}

func TestOfEveryDayInManyYears(t *testing.T) {
	for d := range modelTexts() {
		for _, y := range years {
			for m := 1; m <= 12; m++ {
				asTheModelOf(t, d, y, m)
			}
		}
	}
}

func TestOfTheLastDaysOfEveryMonth(t *testing.T) {
	for y := -9999; y <= 9999; y++ {
		for m := 1; m <= 12; m++ {
			next := numberOf(y, m+1, 1)
			for week := range 7 {
				n, k := dayform.Of(api.Day{Kind: 1, Week: week}, y, m)
				if k != api.OK || n < next-7 || n >= next || (n%7+11)%7 != int64(week) {
					t.Fatalf("Of the last day %d in %d %d: %d, kind %d; the next month begins at %d", week, y, m, n, int(k), next)
				}
			}
		}
	}
}

func TestOfAnyRightDay(t *testing.T) {
	var days []api.Day
	for d := range modelTexts() {
		days = append(days, d)
	}
	r := rand.New(rand.NewSource(6))
	for range 300000 {
		asTheModelOf(t, days[r.Intn(len(days))], r.Intn(20005)-10002, r.Intn(16)-1)
	}
}

func TestOfWhatIsNoYearOrMonth(t *testing.T) {
	for d := range modelTexts() {
		for _, y := range append([]int{-10002, -10001, -10000, 10000, 10001, 10002}, wild...) {
			for _, m := range []int{-1, 0, 1, 2, 12, 13} {
				same(t, fmt.Sprint("Of ", d, " in ", y, " ", m), of(d, y, m), noNumber)
			}
		}
		for _, m := range append([]int{-12, -11, -2, -1, 0, 13, 14, 24, 25, 256 + 3}, wild...) {
			for _, y := range append([]int{-10000, -9999, -1, 0, 1, 2024, 9999, 10000}, wild...) {
				same(t, fmt.Sprint("Of ", d, " in ", y, " ", m), of(d, y, m), noNumber)
			}
		}
	}
}

func TestOfADayThatIsNotRight(t *testing.T) {
	texts := modelTexts()
	everyDay(func(d api.Day) {
		if _, ok := texts[d]; ok {
			return
		}
		for _, x := range [][2]int{{2024, 3}, {2024, 2}, {-9999, 1}, {9999, 12}, {-10000, 1}, {10000, 12}, {2024, 0}, {2024, 13}, {math.MinInt, math.MinInt}, {math.MaxInt, math.MaxInt}} {
			if got := of(d, x[0], x[1]); got != notRight {
				t.Fatalf("Of %v in %d: %s, not %s", d, x, got, notRight)
			}
		}
	})
}

// P603: laws.

func TestEachDayOfAWeekIsOneOfTheSeven(t *testing.T) {
	for _, y := range years {
		for m := 1; m <= 12; m++ {
			for day := 1; day <= civil.Long(y, m); day++ {
				base := numberOf(y, m, day)
				var later, ahead [7]int
				for week := range 7 {
					n, k := dayform.Of(api.Day{Kind: 2, Day: day, Week: week}, y, m)
					o, j := dayform.Of(api.Day{Kind: 3, Day: day, Week: week}, y, m)
					if k != api.OK || j != api.OK || n < base || n > base+6 || o > base || o < base-6 || n != o && n != o+7 || civil.Week(n) != week || civil.Week(o) != week {
						t.Fatalf("of %d %d %d the days %d from it on and up to it: %d, kind %d, and %d, kind %d", y, m, day, week, n, int(k), o, int(j))
					}
					later[n-base]++
					ahead[base-o]++
				}
				if each := [7]int{1, 1, 1, 1, 1, 1, 1}; later != each || ahead != each {
					t.Fatalf("of %d %d %d the days of a week from it on and up to it: %v %v", y, m, day, later, ahead)
				}
			}
		}
	}
}

func TestTheLastSevenDaysAreTheSeven(t *testing.T) {
	for y := -9999; y <= 9999; y++ {
		for m := 1; m <= 12; m++ {
			end, _ := civil.Days(y, m, civil.Long(y, m))
			var ahead [7]int
			for week := range 7 {
				n, _ := dayform.Of(api.Day{Kind: 1, Week: week}, y, m)
				o, _ := dayform.Of(api.Day{Kind: 3, Day: civil.Long(y, m), Week: week}, y, m)
				if n != o || n > end || n < end-6 || civil.Week(n) != week {
					t.Fatalf("the last day %d in %d %d: %d, and up to the month's end: %d", week, y, m, n, o)
				}
				ahead[end-n]++
			}
			if ahead != [7]int{1, 1, 1, 1, 1, 1, 1} {
				t.Fatalf("the last days of %d %d: %v", y, m, ahead)
			}
		}
	}
}

func TestACallKeepsNothing(t *testing.T) {
	days := model()
	for range 3 {
		for _, s := range []string{"lastSun", "x", "", "Sun>=8", "Sun>=", "31", "32", "Sat<=25", "lastsun"} {
			asTheModel(t, days, s)
		}
		is(t, "Show", shown(api.Day{Kind: 2, Day: 8, Week: 1}), `"Mon>=8" 0`)
		is(t, "Show", shown(api.Day{Kind: 4, Day: 8, Week: 1}), noText)
		is(t, "Of", of(api.Day{Kind: 1}, 2024, 3), "19813 0")
		is(t, "Of", of(api.Day{Kind: 1, Day: 1}, 2024, 3), notRight)
		is(t, "Of", of(api.Day{Day: 29}, 2023, 2), noNumber)
		is(t, "Of", of(api.Day{Day: 29}, 2024, 2), "19782 0")
	}
}
