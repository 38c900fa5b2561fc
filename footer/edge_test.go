package footer_test

import (
	"fmt"
	"math/rand"
	"testing"
	"time"

	"noonmark/api"
	"noonmark/den"
	"noonmark/footer"
)

// P1704: edges.

// pairZone: of an era with two rules without an end.
func pairZone(off int, saves, still api.Rule) den.Zone {
	saves.From, saves.To, still.From, still.To = 1990, api.Endless, 1995, api.Endless
	return den.Zone{Eras: []api.Era{{Off: off, Kind: 2, Format: "AAA/BBB"}}, Rules: [][]api.Rule{{saves, still}}}
}

// edgesOf: of a rule that stands as the start, and as the end, with another rule that is so many months off, and with that saving.
func edgesOf(r api.Rule, off, save int) (start, end footer.Edge, startK, endK api.Kind) {
	other := api.Rule{Month: (r.Month+5)%12 + 1, On: api.Day{Kind: 1}, At: api.At{Kind: 0}}
	a, b := r, other
	a.Save = save
	s, startK := footer.Of(pairZone(off, a, b))
	a, b = other, r
	a.Save, b.Save = save, 0
	e, endK := footer.Of(pairZone(off, a, b))
	return s.Start, e.End, startK, endK
}

func toldEdge(e footer.Edge, k api.Kind) string { return fmt.Sprintf("%+v %d", e, int(k)) }

var noEdge = toldEdge(footer.Edge{}, api.NoFooter)

func TestDaysAsEdges(t *testing.T) {
	for _, x := range []struct {
		month int
		on    api.Day
		want  string
	}{
		{1, api.Day{Day: 1}, "J1"}, {1, api.Day{Day: 31}, "J31"}, {2, api.Day{Day: 1}, "J32"}, {2, api.Day{Day: 28}, "J59"}, {2, api.Day{Day: 29}, ""}, {3, api.Day{Day: 1}, "J60"}, {12, api.Day{Day: 31}, "J365"}, {6, api.Day{Day: 30}, "J181"}, {6, api.Day{Day: 31}, ""}, {2, api.Day{Day: 30}, ""}, {10, api.Day{Day: 10}, "J283"},
		{3, api.Day{Kind: 1, Week: 0}, "M3.5.0"}, {2, api.Day{Kind: 1, Week: 6}, "M2.5.6"}, {12, api.Day{Kind: 1, Week: 3}, "M12.5.3"},
		{3, api.Day{Kind: 2, Day: 1, Week: 0}, "M3.1.0"}, {3, api.Day{Kind: 2, Day: 7, Week: 0}, "M3.1.1/146"}, {3, api.Day{Kind: 2, Day: 8, Week: 0}, "M3.2.0"}, {3, api.Day{Kind: 2, Day: 9, Week: 0}, "M3.2.6/26"}, {3, api.Day{Kind: 2, Day: 14, Week: 6}, "M3.2.0/146"}, {3, api.Day{Kind: 2, Day: 15, Week: 6}, "M3.3.6"}, {3, api.Day{Kind: 2, Day: 16, Week: 6}, "M3.3.5/26"}, {3, api.Day{Kind: 2, Day: 22, Week: 3}, "M3.4.3"}, {3, api.Day{Kind: 2, Day: 23, Week: 5}, "M3.4.4/26"}, {3, api.Day{Kind: 2, Day: 25, Week: 0}, "M3.4.4/74"}, {3, api.Day{Kind: 2, Day: 28, Week: 0}, "M3.4.1/146"}, {3, api.Day{Kind: 2, Day: 29, Week: 0}, ""}, {3, api.Day{Kind: 2, Day: 30, Week: 0}, ""}, {3, api.Day{Kind: 2, Day: 31, Week: 0}, ""}, {2, api.Day{Kind: 2, Day: 22, Week: 1}, "M2.4.1"}, {2, api.Day{Kind: 2, Day: 28, Week: 1}, "M2.4.2/146"}, {2, api.Day{Kind: 2, Day: 29, Week: 1}, ""}, {4, api.Day{Kind: 2, Day: 2, Week: 0}, "M4.1.6/26"}, {4, api.Day{Kind: 2, Day: 3, Week: 0}, "M4.1.5/50"}, {4, api.Day{Kind: 2, Day: 2, Week: 6}, "M4.1.5/26"},
		{3, api.Day{Kind: 3, Day: 31, Week: 0}, "M3.5.0"}, {4, api.Day{Kind: 3, Day: 30, Week: 4}, "M4.5.4"}, {3, api.Day{Kind: 3, Day: 30, Week: 6}, "M3.4.4/50"}, {4, api.Day{Kind: 3, Day: 29, Week: 6}, "M4.4.5/26"}, {4, api.Day{Kind: 3, Day: 31, Week: 4}, ""}, {2, api.Day{Kind: 3, Day: 28, Week: 0}, "M2.4.0"}, {2, api.Day{Kind: 3, Day: 27, Week: 0}, "M2.3.1/146"}, {2, api.Day{Kind: 3, Day: 29, Week: 0}, ""}, {3, api.Day{Kind: 3, Day: 28, Week: 0}, "M3.4.0"}, {3, api.Day{Kind: 3, Day: 29, Week: 0}, "M3.4.6/26"}, {3, api.Day{Kind: 3, Day: 7, Week: 0}, "M3.1.0"}, {3, api.Day{Kind: 3, Day: 8, Week: 0}, "M3.1.6/26"}, {3, api.Day{Kind: 3, Day: 13, Week: 0}, "M3.1.1/146"}, {3, api.Day{Kind: 3, Day: 14, Week: 0}, "M3.2.0"}, {3, api.Day{Kind: 3, Day: 6, Week: 0}, ""}, {3, api.Day{Kind: 3, Day: 1, Week: 0}, ""}, {2, api.Day{Kind: 3, Day: 7, Week: 3}, "M2.1.3"}, {2, api.Day{Kind: 3, Day: 6, Week: 3}, ""},
	} {
		start, end, startK, endK := edgesOf(api.Rule{Month: x.month, On: x.on, At: api.At{Sec: 7200}}, 0, 3600)
		want := noEdge
		if x.want != "" {
			want = toldEdge(parsed("AAA0BBB,"+x.want+",J1").Start, api.OK)
		}
		is(t, fmt.Sprint("the start of ", x.on, " in ", x.month), toldEdge(start, startK), want)
		is(t, fmt.Sprint("the end of ", x.on, " in ", x.month), toldEdge(end, endK), want)
	}
}

func TestTimesAsEdges(t *testing.T) {
	for _, x := range []struct {
		off, save, kind, sec int
		start, end           int
	}{
		// wall time
		{3600, 3600, 0, 0, 0, 0}, {3600, 3600, 0, 7200, 7200, 7200}, {-18000, 3600, 0, 7200, 7200, 7200}, {3600, -3600, 0, -3600, -3600, -3600}, {86400, -86400, 0, 604799, 604799, 604799},
		// standard time
		{3600, 3600, 1, 7200, 7200, 10800}, {-18000, 3600, 1, 0, 0, 3600}, {3600, -3600, 1, 7200, 7200, 3600}, {0, 1800, 1, 7200, 7200, 9000}, {3600, 7200, 1, -3600, -3600, 3600}, {3600, -3600, 1, 0, 0, -3600},
		// universal time
		{3600, 3600, 2, 3600, 7200, 10800}, {-18000, 3600, 2, 25200, 7200, 10800}, {3600, -3600, 2, 3600, 7200, 3600}, {-7200, 3600, 2, 3600, -3600, 0}, {0, 7200, 2, 3600, 3600, 10800}, {45900, 3600, 2, 0, 45900, 49500}, {-14400, 3600, 2, 3600, -10800, -7200}, {-86400, 86400, 2, 0, -86400, 0},
	} {
		for _, on := range []api.Day{{Kind: 1, Week: 0}, {Day: 5}, {Kind: 2, Day: 8, Week: 3}, {Kind: 3, Day: 7, Week: 2}} {
			start, end, startK, endK := edgesOf(api.Rule{Month: 4, On: on, At: api.At{Sec: x.sec, Kind: x.kind}}, x.off, x.save)
			is(t, fmt.Sprint("the start of ", x), fmt.Sprint(start.Sec, startK), fmt.Sprint(x.start, api.OK))
			is(t, fmt.Sprint("the end of ", x), fmt.Sprint(end.Sec, endK), fmt.Sprint(x.end, api.OK))
		}
	}
}

func TestTimesThatLeaveAnEdgesBounds(t *testing.T) {
	const most = 604799
	for _, x := range []struct {
		off, save, kind, sec int
		days                 int // that the day's kind puts on
		start, end           bool
	}{
		{0, 3600, 0, most, 0, true, true}, {0, 3600, 0, -most, 0, true, true},
		{0, 3600, 1, most, 0, true, false}, {0, 3600, 1, most - 3600, 0, true, true}, {0, 3600, 1, most - 3599, 0, true, false}, {0, -3600, 1, -most, 0, true, false}, {0, -3600, 1, 3600 - most, 0, true, true}, {0, -3600, 1, 3599 - most, 0, true, false}, {0, 3600, 1, -most, 0, true, true},
		{3600, 3600, 2, most, 0, false, false}, {3600, 3600, 2, most - 3600, 0, true, false}, {3600, 3600, 2, most - 3599, 0, false, false}, {3600, 3600, 2, most - 7200, 0, true, true}, {3600, 3600, 2, most - 7199, 0, true, false}, {3600, -3600, 2, most, 0, false, true}, {3600, -3600, 2, most - 3600, 0, true, true}, {-3600, -3600, 2, -most, 0, false, false}, {-3600, -3600, 2, 3600 - most, 0, true, false}, {-3600, -3600, 2, 7200 - most, 0, true, true}, {-3600, 3600, 2, -most, 0, false, true},
		{0, 3600, 0, most - 86400, 1, true, true}, {0, 3600, 0, most - 86399, 1, false, false}, {0, 3600, 0, most, 1, false, false}, {0, 3600, 0, -most, 1, true, true}, {0, 3600, 0, most - 6*86400, 6, true, true}, {0, 3600, 0, most - 6*86400 + 1, 6, false, false}, {0, 3600, 1, most - 86400, 1, true, false}, {0, 3600, 1, most - 90000, 1, true, true}, {3600, 3600, 2, most - 86400, 1, false, false}, {3600, 3600, 2, most - 90000, 1, true, false}, {3600, 3600, 2, most - 93600, 1, true, true}, {-3600, -3600, 2, -most, 1, true, true},
	} {
		for _, on := range []api.Day{{Kind: 2, Day: 8 + x.days, Week: 3}, {Kind: 3, Day: 14 + x.days, Week: 3}} {
			start, end, startK, endK := edgesOf(api.Rule{Month: 4, On: on, At: api.At{Sec: x.sec, Kind: x.kind}}, x.off, x.save)
			told := fmt.Sprint(startK, start == footer.Edge{}, endK, end == footer.Edge{})
			k := map[bool]api.Kind{true: api.OK, false: api.NoFooter}
			is(t, fmt.Sprint(on, " of ", x), told, fmt.Sprint(k[x.start], !x.start, k[x.end], !x.end))
		}
	}
}

// modelEdge of a rule's day: places are looked for; ok: false: none.
func modelEdgeOf(on api.Day, month int) (e footer.Edge, days int, ok bool) {
	long := time.Date(2001, time.Month(month)+1, 0, 0, 0, 0, 0, time.UTC).Day()
	if on.Kind != 1 && on.Day > long {
		return e, 0, false
	}
	if on.Kind == 1 || on.Kind == 3 && on.Day == long && month != 2 {
		return m(month, 5, on.Week, 0), 0, true
	}
	if on.Kind == 0 {
		return j(time.Date(2001, time.Month(month), on.Day, 0, 0, 0, 0, time.UTC).YearDay(), 0), 0, true
	}
	first := on.Day
	if on.Kind == 3 {
		first -= 6
	}
	for week := 1; week <= 4; week++ {
		for days := range 7 {
			if 7*(week-1)+1+days == first {
				return m(month, week, (on.Week+7-days)%7, 0), days, true
			}
		}
	}
	return e, 0, false
}

// all days of months that there are, and each as a start and as an end, in time of each kind.
func TestEveryDayAsAnEdge(t *testing.T) {
	none := 0
	for month := 1; month <= 12; month++ {
		for kind := range 4 {
			for day := 1; day <= 31; day++ {
				for week := range 7 {
					on := api.Day{Kind: kind, Day: day, Week: week}
					if kind == 0 && week > 0 || kind == 1 && day > 1 {
						continue
					}
					if kind == 1 {
						on.Day = 0
					}
					e, days, ok := modelEdgeOf(on, month)
					timeKind := (day + week) % 3
					start, end, startK, endK := edgesOf(api.Rule{Month: month, On: on, At: api.At{Sec: 3600, Kind: timeKind}}, -1800, 600)
					wantStart, wantEnd := noEdge, noEdge
					if ok {
						e.Sec = 86400*days + 3600 + []int{0, 0, -1800}[timeKind]
						wantStart = toldEdge(e, api.OK)
						e.Sec += []int{0, 600, 600}[timeKind]
						wantEnd = toldEdge(e, api.OK)
					} else {
						none++
					}
					same(t, fmt.Sprint("the start of ", on, " in ", month), toldEdge(start, startK), wantStart)
					same(t, fmt.Sprint("the end of ", on, " in ", month), toldEdge(end, endK), wantEnd)
				}
			}
		}
	}
	// kind 0: February 29 to 31, and four 31sts; kind 2: from 29 on; kind 3: ahead of 7, beyond the month
	if want := 7 + 12*3*7 + 12*6*7 + 7*7; none != want {
		t.Errorf("%d days are none, not %d", none, want)
	}
}

// An edge's day, and so many days more, is the rule's day in each year.
func TestEdgesDaysAreTheRules(t *testing.T) {
	r := rand.New(rand.NewSource(1704))
	for range 4000 {
		on := api.Day{Day: 1 + r.Intn(31)}
		switch r.Intn(4) {
		case 1:
			on = api.Day{Kind: 1, Week: r.Intn(7)}
		case 2, 3:
			on.Kind, on.Week = 2+r.Intn(2), r.Intn(7)
		}
		month := 1 + r.Intn(12)
		start, _, k, _ := edgesOf(api.Rule{Month: month, On: on}, 0, 3600)
		if k != api.OK {
			continue
		}
		for range 10 {
			y := anyOf(r, 2000+r.Intn(30), 1+r.Intn(9998))
			got := modelDay(start, y).Unix() + int64(start.Sec)
			same(t, fmt.Sprint(on, " in ", month, " of ", y), when(got), when(ruleDay(on, y, month).Unix()))
		}
	}
}

// ruleDay: by the library's calendar.
func ruleDay(on api.Day, y, month int) time.Time {
	first := time.Date(y, time.Month(month), 1, 0, 0, 0, 0, time.UTC)
	d, step := first.AddDate(0, 0, on.Day-1), []int{0, -1, 1, -1}[on.Kind]
	if on.Kind == 1 {
		d = first.AddDate(0, 1, -1)
	}
	for step != 0 && int(d.Weekday()) != on.Week {
		d = d.AddDate(0, 0, step)
	}
	return d
}

// The texts that the time zone database's compiler makes of the same lines.
func TestFootersThatAreKnown(t *testing.T) {
	for _, x := range []struct{ name, eras, rules, want string }{
		{"Europe/Berlin", "1:00 R CE%sT", eu, "CET-1CEST,M3.5.0,M10.5.0/3"},
		{"Europe/Athens", "2:00 R EE%sT", eu, "EET-2EEST,M3.5.0/3,M10.5.0/4"},
		{"Europe/London", "0:00 R GMT/BST", eu, "GMT0BST,M3.5.0/1,M10.5.0"},
		{"Europe/Dublin", "1:00 R IST/GMT", "1981 max - Mar lastSun 1:00u 0 -;1996 max - Oct lastSun 1:00u -1:00 -", "IST-1GMT0,M10.5.0,M3.5.0/1"},
		{"Europe/Chisinau", "2:00 R EE%sT", "1997 max - Mar lastSun 2:00 1:00 S;1997 max - Oct lastSun 3:00 0 -", "EET-2EEST,M3.5.0,M10.5.0/3"},
		{"America/New_York", "-5:00 R E%sT", us, "EST5EDT,M3.2.0,M11.1.0"},
		{"America/St_Johns", "-3:30 R N%sT", us, "NST3:30NDT,M3.2.0,M11.1.0"},
		{"America/Havana", "-5:00 R C%sT", "2012 max - Nov Sun>=1 0:00s 0 S;2013 max - Mar Sun>=8 0:00s 1:00 D", "CST5CDT,M3.2.0/0,M11.1.0/1"},
		{"America/Nuuk", "-2:00 R %z", eu, "<-02>2<-01>,M3.5.0/-1,M10.5.0/0"},
		{"America/Santiago", "-4:00 R %z", "2019 max - Apr Sun>=2 3:00u 0 -;2023 max - Sep Sun>=2 4:00u 1:00 -", "<-04>4<-03>,M9.1.6/24,M4.1.6/24"},
		{"Pacific/Easter", "-6:00 R %z", "2019 max - Apr Sun>=2 3:00u 0 -;2023 max - Sep Sun>=2 4:00u 1:00 -", "<-06>6<-05>,M9.1.6/22,M4.1.6/22"},
		{"America/Asuncion", "-4:00 R %z", "2010 max - Oct Sun>=1 0:00 1:00 -;2013 max - Mar Sun>=22 0:00 0 -", "<-04>4<-03>,M10.1.0/0,M3.4.0/0"},
		{"Asia/Jerusalem", "2:00 R I%sT", "2013 max - Mar Fri>=23 2:00 1:00 D;2013 max - Oct lastSun 2:00 0 S", "IST-2IDT,M3.4.4/26,M10.5.0"},
		{"Asia/Gaza", "2:00 R EE%sT", "2023 max - Oct Sat<=30 2:00 0 -;2023 max - Mar Sat<=30 2:00 1:00 S", "EET-2EEST,M3.4.4/50,M10.4.4/50"},
		{"Africa/Cairo", "2:00 R EE%sT", "2023 max - Apr lastFri 0:00 1:00 S;2023 max - Oct lastThu 24:00 0 -", "EET-2EEST,M4.5.5/0,M10.5.4/24"},
		{"Australia/Sydney", "10:00 R AE%sT", "2008 max - Apr Sun>=1 2:00s 0 S;2008 max - Oct Sun>=1 2:00s 1:00 D", "AEST-10AEDT,M10.1.0,M4.1.0/3"},
		{"Australia/Lord_Howe", "10:30 R %z", "2008 max - Apr Sun>=1 2:00 0 -;2008 max - Oct Sun>=1 2:00 0:30 -", "<+1030>-10:30<+11>-11,M10.1.0,M4.1.0"},
		{"Pacific/Chatham", "12:45 R %z", "2007 max - Sep lastSun 2:45s 1:00 -;2008 max - Apr Sun>=1 2:45s 0 -", "<+1245>-12:45<+1345>,M9.5.0/2:45,M4.1.0/3:45"},
		{"Antarctica/Troll", "0:00 R %s", "2005 max - Mar lastSun 1:00u 2:00 +02;2004 max - Oct lastSun 1:00u 0:00 +00", "<+00>0<+02>-2,M3.5.0/1,M10.5.0/3"},
		{"Asia/Kolkata", "5:30 - IST", "", "IST-5:30"},
		{"America/Sao_Paulo", "-3:00 R %z", "2018 only - Nov Sun>=1 0:00 1:00 -;2016 2019 - Feb Sun>=15 0:00 0 -", "<-03>3"},
		{"Asia/Tokyo", "9:00 R J%sT", "1948 only - May Sat>=1 24:00 1:00 D;1948 1951 - Sep Sat>=8 25:00 0 S;1949 only - Apr Sat>=1 24:00 1:00 D;1950 1951 - May Sat>=1 24:00 1:00 D", "JST-9"},
	} {
		is(t, x.name, made(x.eras, x.rules), x.want)
	}
}
