package footer_test

import (
	"fmt"
	"math"
	"math/rand"
	"slices"
	"testing"
	"time"

	"noonmark/api"
	"noonmark/footer"
)

func toldLocal(l api.Local, k api.Kind) string {
	if k != api.OK {
		return fmt.Sprintf("kind %d, %v", int(k), l)
	}
	return fmt.Sprintf("%d %v %q", l.Off, l.Dst, l.Abbr)
}

// noLocal: as toldLocal tells a kind.
func noLocal(k api.Kind) string { return toldLocal(api.Local{}, k) }

const clockForm = "2006-01-02 15:04:05"

// at: an instant.
func at(s string) int64 {
	x, err := time.Parse(clockForm, s)
	if err != nil {
		panic(err)
	}
	return x.Unix()
}

func when(t int64) string { return time.Unix(t, 0).UTC().Format(clockForm) }

func yearBegin(y int) int64 { return time.Date(y, 1, 1, 0, 0, 0, 0, time.UTC).Unix() }

// reachBegin, reachEnd: the first instant in reach, and the last one.
var (
	reachBegin = yearBegin(-9998)
	reachEnd   = yearBegin(9999) - 1
)

func parsed(text string) footer.Spec {
	s, k := footer.Parse(text)
	if k != api.OK {
		panic(text)
	}
	return s
}

// P1702: At.

// moment: of a spec that is std up to it and dst behind it, or the other way round.
type moment struct {
	spec, t  string
	dstAfter bool
}

// tell: what the spec shows on one of its sides.
func tell(s footer.Spec, dst bool) string {
	if dst {
		return toldLocal(api.Local{Off: s.DOff, Dst: true, Abbr: s.Dst}, api.OK)
	}
	return toldLocal(api.Local{Off: s.Off, Abbr: s.Std}, api.OK)
}

func TestAtOfMoments(t *testing.T) {
	const (
		europe = "CET-1CEST,M3.5.0,M10.5.0/3"
		us     = "EST5EDT,M3.2.0,M11.1.0"
		sydney = "AEST-10AEDT,M10.1.0,M4.1.0/3"
		dublin = "IST-1GMT0,M10.5.0,M3.5.0/1"
		j59    = "AAA0BBB0,J59/0,J300/0"
		j60    = "AAA0BBB0,J60/0,J300/0"
		j365   = "AAA0BBB0,J60/0,J365/0"
	)
	for _, x := range []moment{
		{europe, "2024-03-31 01:00:00", true}, {europe, "2024-10-27 01:00:00", false}, {europe, "2023-03-26 01:00:00", true}, {europe, "2023-10-29 01:00:00", false}, {europe, "1970-03-29 01:00:00", true}, {europe, "1969-10-26 01:00:00", false},
		{us, "2024-03-10 07:00:00", true}, {us, "2024-11-03 06:00:00", false}, {us, "2021-03-14 07:00:00", true}, {us, "2021-11-07 06:00:00", false},
		// the end is ahead of the start in a year
		{sydney, "2024-04-06 16:00:00", false}, {sydney, "2024-10-05 16:00:00", true}, {sydney, "2023-04-01 16:00:00", false}, {sydney, "2023-09-30 16:00:00", true},
		// a saving below 0
		{dublin, "2024-03-31 01:00:00", false}, {dublin, "2024-10-27 01:00:00", true},
		// fixed days, with February 29 and without
		{j59, "2023-02-28 00:00:00", true}, {j59, "2024-02-28 00:00:00", true}, {j60, "2023-03-01 00:00:00", true}, {j60, "2024-03-01 00:00:00", true}, {j60, "1900-03-01 00:00:00", true}, {j60, "2000-03-01 00:00:00", true}, {j365, "2023-12-31 00:00:00", false}, {j365, "2024-12-31 00:00:00", false}, {j59, "2023-10-27 00:00:00", false}, {j59, "2024-10-27 00:00:00", false},
		{"AAA0BBB0,J1/0,J31/0", "2024-01-01 00:00:00", true}, {"AAA0BBB0,J1/0,J31/0", "2024-01-31 00:00:00", false}, {"AAA0BBB0,J32/0,J90/0", "2023-02-01 00:00:00", true}, {"AAA0BBB0,J32/0,J90/0", "2024-03-31 00:00:00", false}, {"AAA0BBB0,J334/0,J345/0", "2024-11-30 00:00:00", true}, {"AAA0BBB0,J300/0,J335/0", "2024-12-01 00:00:00", false},
		// weeks: months with four such days, and with five
		{"AAA0BBB0,M2.5.4/0,M6.1.6/0", "2024-02-29 00:00:00", true}, {"AAA0BBB0,M2.5.4/0,M6.1.6/0", "2023-02-23 00:00:00", true}, {"AAA0BBB0,M2.5.4/0,M6.1.6/0", "2024-06-01 00:00:00", false}, {"AAA0BBB0,M2.5.4/0,M6.1.6/0", "2023-06-03 00:00:00", false}, {"AAA0BBB0,M2.4.4/0,M6.1.6/0", "2024-02-22 00:00:00", true}, {"AAA0BBB0,M3.5.0/0,M9.5.0/0", "2024-03-31 00:00:00", true}, {"AAA0BBB0,M3.5.0/0,M9.5.0/0", "2024-09-29 00:00:00", false}, {"AAA0BBB0,M3.5.0/0,M9.5.0/0", "2023-09-24 00:00:00", false}, {"AAA0BBB0,M3.4.0/0,M9.4.0/0", "2024-03-24 00:00:00", true}, {"AAA0BBB0,M3.4.0/0,M9.4.0/0", "2024-09-22 00:00:00", false}, {"AAA0BBB0,M2.5.0/0,M12.5.2/0", "2026-02-22 00:00:00", true}, {"AAA0BBB0,M2.5.0/0,M12.5.2/0", "2024-12-31 00:00:00", false}, {"AAA0BBB0,M1.1.1/0,M3.1.0/0", "2024-01-01 00:00:00", true}, {"AAA0BBB0,M1.1.1/0,M3.1.0/0", "2023-01-02 00:00:00", true},
		{"AAA0BBB0,M5.1.3/0,M8.2.4/0", "2024-05-01 00:00:00", true}, {"AAA0BBB0,M5.2.3/0,M8.2.4/0", "2024-05-08 00:00:00", true}, {"AAA0BBB0,M5.3.3/0,M8.2.4/0", "2024-05-15 00:00:00", true}, {"AAA0BBB0,M5.1.2/0,M8.3.4/0", "2024-05-07 00:00:00", true}, {"AAA0BBB0,M5.1.2/0,M8.3.4/0", "2024-08-15 00:00:00", false},
		// a Sec that leads into another day, month, year
		{"IST-2IDT,M3.4.4/26,M10.5.0", "2024-03-29 00:00:00", true}, {"AAA0BBB0,M3.5.0/-1,M10.5.0/0", "2024-03-30 23:00:00", true}, {"AAA0BBB0,M4.5.5/0,M10.5.4/24", "2024-11-01 00:00:00", false}, {"AAA0BBB0,M4.1.1/-24,M10.5.0", "2024-03-31 00:00:00", true}, {"AAA0BBB0,J60/-24,J200", "2024-02-29 00:00:00", true}, {"AAA0BBB0,J60/-24,J200", "2023-02-28 00:00:00", true}, {"AAA0BBB0,J59/24,J200", "2024-02-29 00:00:00", true}, {"AAA0BBB0,J59/24,J200", "2023-03-01 00:00:00", true}, {"AAA0BBB0,J200,J365/24", "2024-01-01 00:00:00", false}, {"AAA0BBB0,J200,J365/167:59:59", "2024-01-06 23:59:59", false}, {"AAA0BBB0,J365/167:59:59,J200", "2024-01-06 23:59:59", true}, {"AAA0BBB0,J200,J1/-167:59:59", "2024-12-25 00:00:01", false}, {"AAA0BBB0,J1/-167:59:59,J200", "2024-12-25 00:00:01", true}, {"AAA24BBB,J365/167:59:59,J200", "2024-01-07 23:59:59", true}, {"AAA0BBB24,J200,J365/167:59:59", "2024-01-07 23:59:59", false}, {"AAA-24BBB-24,J1/-167:59:59,J200", "2024-12-24 00:00:01", true}, {"AAA0BBB-24,J200,J1/-167:59:59", "2024-12-24 00:00:01", false}, {"AAA0BBB-24,J200/0,J1/0", "2024-12-31 00:00:00", false}, {"AAA0BBB24,J200/0,J365/0", "2025-01-01 00:00:00", false},
		// each edge by the offset ahead of it
		{"AAA-5BBB-3,J100/0,J200/0", "2024-04-09 19:00:00", true}, {"AAA-5BBB-3,J100/0,J200/0", "2024-07-18 21:00:00", false},
		// far years
		{europe, "0001-03-25 01:00:00", true}, {europe, "9998-10-25 01:00:00", false}, {"AAA0BBB0,J60/0,J300/0", "0004-03-01 00:00:00", true},
	} {
		s, first := parsed(x.spec), at(x.t)
		for _, y := range []struct {
			t   int64
			dst bool
		}{{first - 1, !x.dstAfter}, {first, x.dstAfter}, {first + 1, x.dstAfter}, {first - 3600*24*3, !x.dstAfter}, {first + 3600*24*3, x.dstAfter}} {
			is(t, "At "+when(y.t)+" of "+x.spec, toldLocal(footer.At(s, y.t)), tell(s, y.dst))
		}
	}
}

func TestAtOfASpecWithoutADst(t *testing.T) {
	for _, x := range []struct{ spec, want string }{{"UTC0", `0 false "UTC"`}, {"CET-1", `3600 false "CET"`}, {"<-0330>3:30", `-12600 false "-0330"`}, {"ABC-24", `86400 false "ABC"`}, {"ABC24", `-86400 false "ABC"`}} {
		for _, u := range []int64{reachBegin, reachBegin + 1, yearBegin(0), -1, 0, 1, at("2024-03-31 01:00:00"), at("2024-07-01 00:00:00"), reachEnd - 1, reachEnd} {
			is(t, fmt.Sprint("At ", u, " of ", x.spec), toldLocal(footer.At(parsed(x.spec), u)), x.want)
		}
	}
}

func TestAtOfStartsAndEndsAtOneInstant(t *testing.T) {
	for _, x := range []struct{ spec, t string }{
		{"AAA0BBB,M3.1.0,M3.1.0/3", "2024-03-03 02:00:00"}, {"AAA0BBB,J60/0,J60/1", "2024-03-01 00:00:00"}, {"AAA-1BBB-1,J60/0,J60/0", "2024-02-29 23:00:00"}, {"AAA-1BBB0,M10.5.0,M10.5.0/1", "2024-10-27 01:00:00"}, {"AAA0BBB,J1/0,J365/25", "2024-01-01 00:00:00"}, {"AAA0BBB,J365/24,J1/1", "2024-01-01 00:00:00"}, {"AAA0BBB-24,J1/0,J1/24", "2024-01-01 00:00:00"},
	} {
		s, first := parsed(x.spec), at(x.t)
		for _, u := range []int64{first - 86400, first - 1, first, first + 1, first + 86400, first + 86400*100, first + 86400*300} {
			is(t, "At "+when(u)+" of "+x.spec, toldLocal(footer.At(s, u)), tell(s, false))
		}
	}
	// one second apart, either way
	for _, x := range []struct {
		spec, t string
		dst     [4]bool
	}{
		{"AAA0BBB,J60/0,J60/1:00:01", "2024-03-01 00:00:00", [4]bool{false, true, false, false}},
		{"AAA0BBB,J60/0,J60/0:59:59", "2024-03-01 00:00:00", [4]bool{false, true, true, true}},
	} {
		s, first := parsed(x.spec), at(x.t)
		if x.dst[3] {
			is(t, "At one second ahead of an end, of "+x.spec, toldLocal(footer.At(s, first-2)), tell(s, true))
		}
		for i, dst := range x.dst {
			is(t, fmt.Sprint("At ", i-1, " of ", x.spec), toldLocal(footer.At(s, first+int64(i-1))), tell(s, dst))
		}
	}
}

func TestAtTheEndsOfReach(t *testing.T) {
	for _, x := range []struct {
		spec     string
		from, to bool
	}{
		{"UTC0", false, false}, {"CET-1CEST,M3.5.0,M10.5.0/3", false, false}, {"AEST-10AEDT,M10.1.0,M4.1.0/3", true, true},
		// edges of the year -9999; none that are ahead of it, so that a spec can be ahead of all
		{"AAA0BBB0,J365/24,J365/26", true, false}, {"AAA0BBB0,J365/24:00:01,J365/26", false, false}, {"AAA0BBB0,J365/25,J365/24", false, true}, {"AAA0BBB0,J365/25,J365/24:00:01", false, true}, {"AAA0BBB0,J365/23,J365/24:00:01", true, true}, {"AAA0BBB0,J365/25,J364/0", false, false},
		// edges of the year 9999
		{"AAA0BBB0,J1/-0:00:01,J200/0", true, true}, {"AAA0BBB0,J1/0,J200/0", true, false}, {"AAA0BBB0,J200/0,J1/-0:00:01", false, false}, {"AAA0BBB0,J200/0,J1/0", false, true}, {"AAA0BBB0,J200/0,J1/0:00:01", true, true}, {"AAA-1BBB0,J1/0:59:59,J200/0", true, true}, {"AAA-1BBB0,J1/1,J200/0", true, false},
	} {
		s := parsed(x.spec)
		is(t, "At the first instant of "+x.spec, toldLocal(footer.At(s, reachBegin)), tell(s, x.from))
		is(t, "At the last instant of "+x.spec, toldLocal(footer.At(s, reachEnd)), tell(s, x.to))
		for _, u := range []int64{reachBegin - 1, reachEnd + 1, reachBegin - 86400, reachEnd + 86400, yearBegin(-20000), yearBegin(20000), math.MinInt64, math.MinInt64 + 1, math.MaxInt64 - 1, math.MaxInt64, math.MinInt64 + 86400, math.MaxInt64 - 604800} {
			is(t, fmt.Sprint("At ", u, " of ", x.spec), toldLocal(footer.At(s, u)), noLocal(api.Range))
			is(t, fmt.Sprint("At ", u, " of no spec"), toldLocal(footer.At(footer.Spec{}, u)), noLocal(api.BadArg))
		}
	}
}

// The model: all edges about an instant, sorted, on days of the library's calendar.

func modelDay(e footer.Edge, y int) time.Time {
	if e.Fixed {
		d := time.Date(2001, 1, e.Day, 0, 0, 0, 0, time.UTC)
		return time.Date(y, d.Month(), d.Day(), 0, 0, 0, 0, time.UTC)
	}
	var days []time.Time
	for d := time.Date(y, time.Month(e.Month), 1, 0, 0, 0, 0, time.UTC); d.Month() == time.Month(e.Month); d = d.AddDate(0, 0, 1) {
		if int(d.Weekday()) == e.Day {
			days = append(days, d)
		}
	}
	if e.Week == 5 {
		return days[len(days)-1]
	}
	return days[e.Week-1]
}

// turn: an instant behind which clocks save, or don't.
type turn struct {
	t   int64
	dst bool
}

func modelTurns(s footer.Spec, from, to int) []turn {
	var l []turn
	for y := max(from, -9999); y <= min(to, 9999); y++ {
		l = append(l, turn{modelDay(s.Start, y).Unix() + int64(s.Start.Sec-s.Off), true}, turn{modelDay(s.End, y).Unix() + int64(s.End.Sec-s.DOff), false})
	}
	slices.SortStableFunc(l, func(a, b turn) int {
		switch {
		case a.t < b.t || a.t == b.t && a.dst && !b.dst:
			return -1
		case a == b:
			return 0
		}
		return 1
	})
	return l
}

func modelSaves(s footer.Spec, t int64) bool {
	saves := false
	if s.Dst != "" {
		y := time.Unix(t, 0).UTC().Year()
		for _, x := range modelTurns(s, y-2, y+1) {
			if x.t <= t {
				saves = x.dst
			}
		}
	}
	return saves
}

func anyEdge(r *rand.Rand) footer.Edge {
	sec := anyOf(r, 7200, 0, 3600, -3600, 10800, 86400, -86400, 604799, -604799, r.Intn(1209599)-604799, 3600*r.Intn(100))
	if r.Intn(2) == 0 {
		return j(anyOf(r, 1, 2, 7, 58, 59, 60, 61, 358, 364, 365, 1+r.Intn(365)), sec)
	}
	return m(1+r.Intn(12), 1+r.Intn(5), r.Intn(7), sec)
}

func anySpec(r *rand.Rand) footer.Spec {
	off := anyOf(r, 0, 3600, -18000, 86400, -86400, r.Intn(172801)-86400)
	return footer.Spec{Std: anyOf(r, "AAA", "+01", "A1b"), Off: off, Dst: anyOf(r, "BBB", "-0330", "AAA"), DOff: anyOf(r, min(off+3600, 86400), off, r.Intn(172801)-86400), Start: anyEdge(r), End: anyEdge(r)}
}

func TestAtByChance(t *testing.T) {
	r, told := rand.New(rand.NewSource(1702)), map[bool]int{}
	for range 6000 {
		s := anySpec(r)
		if r.Intn(4) == 0 { // about one another
			s.End = s.Start
			s.End.Sec = max(-604799, min(604799, s.End.Sec+s.DOff-s.Off+r.Intn(3)-1))
		}
		y := anyOf(r, -9998, -9997, 0, 1, 4, 1900, 1970, 2000, 2023, 2024, 9997, 9998, r.Intn(19997)-9998)
		instants := []int64{yearBegin(y) + int64(r.Intn(366*86400)), yearBegin(y), yearBegin(y) - 1}
		for _, x := range modelTurns(s, y-1, y+1) {
			instants = append(instants, x.t-1, x.t, x.t+1)
		}
		for _, u := range instants {
			if u < reachBegin || u > reachEnd {
				same(t, fmt.Sprintf("At %d of %+v", u, s), toldLocal(footer.At(s, u)), noLocal(api.Range))
				continue
			}
			dst := modelSaves(s, u)
			told[dst]++
			same(t, fmt.Sprintf("At %s of %+v", when(u), s), toldLocal(footer.At(s, u)), tell(s, dst))
		}
	}
	if told[true] < 10000 || told[false] < 10000 {
		t.Errorf("%v", told)
	}
}

func TestAtOfEveryDayOfAYear(t *testing.T) {
	for _, y := range []int{1900, 2000, 2023, 2024, 2026} {
		for day := 1; day <= 365; day++ {
			checkDay(t, j(day, 0), y)
		}
		for month := 1; month <= 12; month++ {
			for week := 1; week <= 5; week++ {
				for day := range 7 {
					checkDay(t, m(month, week, day, 0), y)
				}
			}
		}
	}
}

// checkDay: an edge is at the begin of its day, as a start and as an end; the other edge is half a year off.
func checkDay(t *testing.T, e footer.Edge, y int) {
	t.Helper()
	begin := modelDay(e, y)
	other := j(1+(begin.YearDay()+182)%365, 0)
	for _, start := range []bool{true, false} {
		s := footer.Spec{Std: "AAA", Dst: "BBB", Start: e, End: other}
		if !start {
			s.Start, s.End = other, e
		}
		same(t, fmt.Sprintf("At the begin of %+v in %d", e, y), toldLocal(footer.At(s, begin.Unix())), tell(s, start))
		same(t, fmt.Sprintf("At the second ahead of %+v in %d", e, y), toldLocal(footer.At(s, begin.Unix()-1)), tell(s, !start))
	}
}

// What the library tells of the same texts.

// file: of a zone without a transition, with a footer.
func file(text string) []byte {
	head := func(version byte) string {
		return "TZif" + string([]byte{version}) + string(make([]byte, 15)) + "\x00\x00\x00\x00\x00\x00\x00\x00\x00\x00\x00\x00\x00\x00\x00\x00\x00\x00\x00\x01\x00\x00\x00\x04"
	}
	const block = "\x00\x00\x00\x00\x00\x00LMT\x00"
	return []byte(head('3') + block + head('3') + block + "\n" + text + "\n")
}

// realTexts: of the time zone database's files.
var realTexts = []string{
	"UTC0", "HST10", "<+0530>-5:30", "<-0330>3:30", "CET-1CEST,M3.5.0,M10.5.0/3", "EET-2EEST,M3.5.0/3,M10.5.0/4", "WET0WEST,M3.5.0/1,M10.5.0", "GMT0BST,M3.5.0/1,M10.5.0", "IST-1GMT0,M10.5.0,M3.5.0/1", "EET-2EEST,M3.5.0,M10.5.0/3", "EET-2EEST,M3.5.0/0,M10.5.0/0", "EET-2EEST,M4.5.5/0,M10.5.4/24", "EET-2EEST,M3.4.4/50,M10.4.4/50", "IST-2IDT,M3.4.4/26,M10.5.0",
	"EST5EDT,M3.2.0,M11.1.0", "NST3:30NDT,M3.2.0,M11.1.0", "AKST9AKDT,M3.2.0,M11.1.0", "CST5CDT,M3.2.0/0,M11.1.0/1", "<-02>2<-01>,M3.5.0/-1,M10.5.0/0", "<-01>1<+00>,M3.5.0/0,M10.5.0/1", "<-04>4<-03>,M9.1.6/24,M4.1.6/24", "<-04>4<-03>,M10.1.0/0,M3.4.0/0", "<-06>6<-05>,M9.1.6/22,M4.1.6/22", "<+00>0<+02>-2,M3.5.0/1,M10.5.0/3", "<-03>3<-02>,M3.2.0,M11.1.0",
	"AEST-10AEDT,M10.1.0,M4.1.0/3", "ACST-9:30ACDT,M10.1.0,M4.1.0/3", "<+1030>-10:30<+11>-11,M10.1.0,M4.1.0", "<+1245>-12:45<+1345>,M9.5.0/2:45,M4.1.0/3:45", "NZST-12NZDT,M9.5.0,M4.1.0/3", "<+11>-11<+12>,M10.1.0,M4.1.0/3",
	"AAA3BBB,J60/0,J300/0", "AAA3BBB,J59,J365/1", "AAA-5:30BBB-6,J61,J305", "AAA0:00:30BBB0:00:10,M2.5.4,M8.1.1/0:00:01", "AAA1BBB,J274/24,J90/-3",
}

func TestTextsThatTheLibraryKnows(t *testing.T) {
	for _, text := range realTexts {
		place, err := time.LoadLocationFromTZData("", file(text))
		if err != nil {
			t.Fatal(err)
		}
		s := parsed(text)
		is(t, "Show of what "+text+" says", toldText(footer.Show(s)), toldText(text, api.OK))
		there := func(u int64) string {
			x := time.Unix(u, 0).In(place)
			abbr, off := x.Zone()
			return fmt.Sprintf("%d %v %q", off, x.IsDST(), abbr)
		}
		check := func(u int64) {
			t.Helper()
			same(t, "At "+when(u)+" of "+text, toldLocal(footer.At(s, u)), there(u))
		}
		const step = 86400 * 9
		for u := yearBegin(1970); u < yearBegin(2110); u += step {
			check(u)
			ahead, behind := u, u+step
			for there(ahead) != there(behind) && behind-ahead > 1 {
				if mid := (ahead + behind) / 2; there(mid) == there(u) {
					ahead = mid
				} else {
					behind = mid
				}
			}
			check(ahead)
			check(behind)
		}
	}
}
