package format_test

import (
	"fmt"
	"math"
	"math/big"
	"math/rand"
	"slices"
	"strings"
	"testing"
	"time"
	_ "time/tzdata"

	"noonmark/api"
	"noonmark/den"
	"noonmark/document"
	"noonmark/format"
	"noonmark/names"
)

func toldLocal(l api.Local, k api.Kind) string {
	if k != api.OK {
		return fmt.Sprintf("kind %d, %v", int(k), l)
	}
	return fmt.Sprintf("%d %v %q", l.Off, l.Dst, l.Abbr)
}

// refused: as toldLocal tells it.
func refused(k api.Kind) string { return fmt.Sprintf("kind %d, {0 false }", int(k)) }

const clockForm = "2006-01-02 15:04:05"

// at: an instant.
func at(s string) int64 {
	x, err := time.Parse(clockForm, s)
	if err != nil {
		panic(err)
	}
	return x.Unix()
}

func yearBegin(y int) int64 { return time.Date(y, 1, 1, 0, 0, 0, 0, time.UTC).Unix() }

// reachBegin, reachEnd: the first instant in reach, and the last one.
var (
	reachBegin = yearBegin(-9998)
	reachEnd   = yearBegin(9999) - 1
)

// zone: of a Zone line without its begin and of those behind it, and of Rule lines without theirs; a ; stands between two, and R is the name of the rules.
func zone(eras, rules string) den.Zone {
	text := "Zone Z " + strings.ReplaceAll(eras, ";", "\n")
	for _, x := range strings.Split(rules, ";") {
		if x != "" {
			text += "\nRule R " + x
		}
	}
	d := document.Parse(text)
	s, _ := names.Make([]names.Doc{{Name: "d", D: d}})
	z, ok := den.Of(s, "Z")
	if !ok || len(z.Eras) != strings.Count(eras, ";")+1 || len(d.Diags) != 0 {
		panic(text)
	}
	return z
}

const (
	eu = "1981 max - Mar lastSun 1:00u 1:00 S;1996 max - Oct lastSun 1:00u 0 -"
	us = "1967 2006 - Oct lastSun 2:00 0 S;1967 1973 - Apr lastSun 2:00 1:00 D;1974 only - Jan 6 2:00 1:00 D;1975 only - Feb 23 2:00 1:00 D;1976 1986 - Apr lastSun 2:00 1:00 D;1987 2006 - Apr Sun>=1 2:00 1:00 D;2007 max - Mar Sun>=8 2:00 1:00 D;2007 max - Nov Sun>=1 2:00 0 S"
)

// P1602: Of.

func TestOf(t *testing.T) {
	for _, x := range []struct {
		off    int
		format string
		save   int
		letter string
		want   string
	}{
		{3600, "CE%sT", 3600, "S", `7200 true "CEST"`}, {3600, "CE%sT", 0, "", `3600 false "CET"`}, {-18000, "E%sT", 3600, "D", `-14400 true "EDT"`}, {-18000, "E%sT", 0, "S", `-18000 false "EST"`},
		{0, "GMT/BST", 0, "", `0 false "GMT"`}, {0, "GMT/BST", 3600, "", `3600 true "BST"`}, {3600, "IST/GMT", 0, "", `3600 false "IST"`}, {3600, "IST/GMT", -3600, "", `0 true "GMT"`}, {0, "ABC/DEF", 1, "", `1 true "DEF"`}, {0, "ABC/DEF", -1, "", `-1 true "DEF"`},
		{19800, "%z", 0, "", `19800 false "+0530"`}, {37800, "%z", 1800, "", `39600 true "+11"`}, {-3600, "%z", 3600, "", `0 true "+00"`}, {-3600, "%z", 1800, "", `-1800 true "-0030"`}, {3600, "%z", -5400, "", `-1800 true "-0030"`},
		{0, "UTC", 0, "", `0 false "UTC"`}, {600, "LMT", 0, "X", `600 false "LMT"`}, {-75, "LMT", 75, "", `0 true "LMT"`},
		// at the bounds of both together
		{90000, "ABC", 90000, "", `180000 true "ABC"`}, {-90000, "ABC", -90000, "", `-180000 true "ABC"`}, {90000, "%z", 90000, "", `180000 true "+50"`}, {180000, "ABC", 0, "", `180000 false "ABC"`}, {0, "ABC", -180000, "", `-180000 true "ABC"`}, {180001, "ABC", -1, "", `180000 true "ABC"`}, {-1, "ABC", 180001, "", `180000 true "ABC"`}, {1, "ABC", -180001, "", `-180000 true "ABC"`}, {1000000, "ABC", -1000000, "", `0 true "ABC"`},
		{90000, "ABC", 90001, "", refused(api.BadArg)}, {90001, "ABC", 90000, "", refused(api.BadArg)}, {-90000, "ABC", -90001, "", refused(api.BadArg)}, {-90001, "ABC", -90000, "", refused(api.BadArg)}, {180000, "ABC", 180000, "", refused(api.BadArg)}, {-180000, "ABC", -180000, "", refused(api.BadArg)}, {180000, "ABC", 1, "", refused(api.BadArg)}, {-1, "ABC", -180000, "", refused(api.BadArg)}, {180001, "ABC", 0, "", refused(api.BadArg)}, {0, "ABC", -180001, "", refused(api.BadArg)},
		// sums that leave their type's range
		{math.MaxInt, "ABC", math.MaxInt, "", refused(api.BadArg)}, {math.MaxInt, "ABC", 2, "", refused(api.BadArg)}, {math.MinInt, "ABC", math.MinInt, "", refused(api.BadArg)}, {math.MinInt, "ABC", -1, "", refused(api.BadArg)}, {math.MaxInt, "ABC", -math.MaxInt, "", `0 true "ABC"`}, {math.MinInt, "ABC", math.MaxInt, "", `-1 true "ABC"`}, {math.MaxInt, "ABC", math.MinInt, "", `-1 true "ABC"`}, {math.MaxInt, "ABC", 0, "", refused(api.BadArg)}, {0, "ABC", math.MinInt, "", refused(api.BadArg)},
		// Abbr's kinds, one ahead of the other
		{3600, "A%sB", 0, "", refused(api.BadFormat)}, {3600, "%z", 1, "", refused(api.BadFormat)}, {1, "%z", 3600, "", refused(api.BadFormat)}, {0, "ABC/D", 3600, "", refused(api.BadFormat)}, {0, "A/BCD", 0, "", refused(api.BadFormat)}, {0, "", 0, "", refused(api.BadFormat)}, {0, "%s", 3600, "%z", refused(api.BadFormat)}, {180001, "", 0, "", refused(api.BadArg)}, {100000, "A%%", 100000, "", refused(api.BadArg)},
	} {
		what := fmt.Sprintf("Of %d, %q and %d, %q", x.off, x.format, x.save, x.letter)
		is(t, what, toldLocal(format.Of(api.Era{Off: x.off, Format: x.format}, den.State{Save: x.save, Letter: x.letter})), x.want)
		// nothing else of either counts
		e := api.Era{Off: x.off, Kind: 1, Save: 777, Rules: "R", Format: x.format, Until: api.Until{Has: true, Year: 1}}
		is(t, what+", and more", toldLocal(format.Of(e, den.State{Era: 5, Save: x.save, Letter: x.letter})), x.want)
		e.Kind, e.Save = -9, math.MinInt
		is(t, what+", and wrong numbers", toldLocal(format.Of(e, den.State{Era: math.MinInt, Save: x.save, Letter: x.letter})), x.want)
	}
	is(t, "Of nothing", toldLocal(format.Of(api.Era{}, den.State{})), refused(api.BadFormat))
}

func TestOfAnyNumbers(t *testing.T) {
	numbers := append([]int{0, 1, -1, 3600, -3600, 86400, -86400, 90000, 90001, -90000, -90001, 179999, 180000, 180001, 180002, -179999, -180000, -180001, -180002, 360000, -360000}, wild...)
	bound := big.NewInt(180000)
	for _, off := range numbers {
		for _, save := range numbers {
			sum := new(big.Int).Add(big.NewInt(int64(off)), big.NewInt(int64(save)))
			want := refused(api.BadArg)
			if sum.CmpAbs(bound) <= 0 {
				name := "ABC"
				if save != 0 {
					name = "DEF"
				}
				want = fmt.Sprintf("%v %v %q", sum, save != 0, name)
			}
			is(t, fmt.Sprint("Of ", off, " and ", save), toldLocal(format.Of(api.Era{Off: off, Format: "ABC/DEF"}, den.State{Save: save})), want)
		}
	}
}

// P1602: At.

func TestAt(t *testing.T) {
	const three = "0:10 - LMT 1911 Mar 11;1:00 1:00 MEZ/MESZ 1950 Mar lastSun 2:00s;1:00 R CE%sT"
	for _, x := range []struct{ eras, rules, t, want string }{
		{"1:00 R CE%sT", eu, "2024-07-01 00:00:00", `7200 true "CEST"`}, {"1:00 R CE%sT", eu, "2024-12-01 00:00:00", `3600 false "CET"`}, {"-5:00 R E%sT", us, "2024-07-01 00:00:00", `-14400 true "EDT"`}, {"-5:00 R E%sT", us, "2024-12-01 00:00:00", `-18000 false "EST"`}, {"-5:00 R E%sT", us, "1960-07-01 00:00:00", `-18000 false "EST"`},
		{"0 R GMT/BST", eu, "2024-07-01 00:00:00", `3600 true "BST"`}, {"0 R GMT/BST", eu, "2024-01-01 00:00:00", `0 false "GMT"`}, {"5:30 - %z", "", "2024-01-01 00:00:00", `19800 false "+0530"`}, {"0 - UTC", "", "0001-01-01 00:00:00", `0 false "UTC"`}, {"1:00 0:30 %z", "", "2024-01-01 00:00:00", `5400 true "+0130"`}, {"1:00 -0:30 ABC/DEF", "", "2024-01-01 00:00:00", `1800 true "DEF"`}, {"1:00 R CE%sT", "", "2024-07-01 00:00:00", `3600 false "CET"`}, {"24:00 24:00 %z", "", "2024-01-01 00:00:00", `172800 true "+48"`}, {"-24:00 -24:00 %z", "", "2024-01-01 00:00:00", `-172800 true "-48"`},
		// an era's end, one second ahead and behind
		{three, eu, "1911-03-10 23:49:59", `600 false "LMT"`}, {three, eu, "1911-03-10 23:50:00", `7200 true "MESZ"`}, {three, eu, "1911-03-10 23:50:01", `7200 true "MESZ"`}, {three, eu, "1950-03-26 00:59:59", `7200 true "MESZ"`}, {three, eu, "1950-03-26 01:00:00", `3600 false "CET"`}, {three, eu, "1950-03-26 01:00:01", `3600 false "CET"`},
		// a rule's fire, one second ahead and behind
		{three, eu, "2024-03-31 00:59:59", `3600 false "CET"`}, {three, eu, "2024-03-31 01:00:00", `7200 true "CEST"`}, {three, eu, "2024-03-31 01:00:01", `7200 true "CEST"`}, {three, eu, "2024-10-27 00:59:59", `7200 true "CEST"`}, {three, eu, "2024-10-27 01:00:00", `3600 false "CET"`},
		// a format that makes none, just where it is asked
		{"1:00 R C%s", eu, "2024-07-01 00:00:00", refused(api.BadFormat)}, {"1:00 R CE%s", eu, "2024-07-01 00:00:00", `7200 true "CES"`}, {"1:00 R CE%s", eu, "2024-12-01 00:00:00", refused(api.BadFormat)}, {"0:10 - LMT 1990;1:00 - A", "", "1980-01-01 00:00:00", `600 false "LMT"`}, {"0:10 - LMT 1990;1:00 - A", "", "2000-01-01 00:00:00", refused(api.BadFormat)}, {"0:10 - A 1990;1:00 - CET", "", "1980-01-01 00:00:00", refused(api.BadFormat)}, {"0:10 - A 1990;1:00 - CET", "", "2000-01-01 00:00:00", `3600 false "CET"`}, {"0:10:20 - %z", "", "2000-01-01 00:00:00", refused(api.BadFormat)}, {"1:00 R ABC/D", eu, "2024-07-01 00:00:00", refused(api.BadFormat)}, {"1:00 R ABC/D", eu, "2024-01-01 00:00:00", `3600 false "ABC"`},
	} {
		is(t, fmt.Sprint("At ", x.t, " of ", x.eras), toldLocal(format.At(zone(x.eras, x.rules), at(x.t))), x.want)
	}
}

func TestAtTheEndsOfReach(t *testing.T) {
	z, none := zone("1:00 - ABC 2000;2:00 - DEF", ""), zone("1:00 - A%s", "")
	for _, x := range []struct {
		t    int64
		want string
	}{
		{reachBegin, `3600 false "ABC"`}, {reachBegin + 1, `3600 false "ABC"`}, {reachEnd, `7200 false "DEF"`}, {reachEnd - 1, `7200 false "DEF"`},
		{reachBegin - 1, refused(api.Range)}, {reachEnd + 1, refused(api.Range)}, {math.MinInt64, refused(api.Range)}, {math.MaxInt64, refused(api.Range)}, {yearBegin(-20000), refused(api.Range)}, {yearBegin(20000), refused(api.Range)},
	} {
		is(t, fmt.Sprint("At ", x.t), toldLocal(format.At(z, x.t)), x.want)
		want := refused(api.BadFormat)
		if x.want == refused(api.Range) { // ahead of BadFormat
			want = x.want
		}
		is(t, fmt.Sprint("At ", x.t, " of a format that makes none"), toldLocal(format.At(none, x.t)), want)
		is(t, fmt.Sprint("At ", x.t, " of no zone"), toldLocal(format.At(den.Zone{}, x.t)), refused(api.BadArg))
	}
}

func TestAtOfZonesThatAreNotRight(t *testing.T) {
	for _, x := range []struct {
		what string
		do   func(z *den.Zone)
		want api.Kind
	}{
		{"nothing", func(z *den.Zone) {}, api.OK},
		{"no era", func(z *den.Zone) { z.Eras, z.Rules = nil, nil }, api.BadArg},
		{"no Rules", func(z *den.Zone) { z.Rules = nil }, api.BadArg},
		{"more Rules", func(z *den.Zone) { z.Rules = append(z.Rules, nil) }, api.BadArg},
		{"too many eras", func(z *den.Zone) {
			z.Eras, z.Rules = slices.Repeat(z.Eras, 3), slices.Repeat(z.Rules, 3)
		}, api.BadArg},
		{"an Off of more than a day", func(z *den.Zone) { z.Eras[0].Off = 86401 }, api.BadArg},
		{"an Off far out", func(z *den.Zone) { z.Eras[2].Off = math.MinInt }, api.BadArg},
		{"a Save of more than a day", func(z *den.Zone) { z.Eras[1].Save = -86401 }, api.BadArg},
		{"a rule's Save far out", func(z *den.Zone) { z.Rules[2][0].Save = math.MaxInt }, api.BadArg},
		{"a Kind that is none", func(z *den.Zone) { z.Eras[1].Kind = 3 }, api.BadArg},
		{"an until's day that is none", func(z *den.Zone) { z.Eras[0].Until.On.Day = 32 }, api.BadArg},
		{"an era that goes on", func(z *den.Zone) { z.Eras[0].Until.Has = false }, api.Open},
		{"a last era that ends", func(z *den.Zone) { z.Eras[2].Until = z.Eras[1].Until }, api.Open},
		{"eras out of order", func(z *den.Zone) { z.Eras[0].Until.Year = 1960 }, api.Unsorted},
	} {
		for _, f := range []string{"CE%sT", "A"} {
			z := zone("0:10 - LMT 1911 Mar 11;1:00 1:00 MEZ/MESZ 1950 Mar lastSun 2:00s;1:00 R CE%sT", eu)
			x.do(&z)
			for i := range z.Eras {
				z.Eras[i].Format = f
			}
			for _, when := range []int64{yearBegin(1900), yearBegin(1930), 0, yearBegin(2024), reachEnd, reachEnd + 1, math.MinInt64} {
				if x.want != api.OK { // ahead of Range and BadFormat
					is(t, fmt.Sprint("At ", when, " with ", x.what), toldLocal(format.At(z, when)), refused(x.want))
				}
			}
			if x.want == api.OK {
				is(t, "is there something at 0, with "+f, fmt.Sprint(toldLocal(format.At(z, 0)) == `3600 false "CET"`), fmt.Sprint(f == "CE%sT"))
			}
		}
	}
}

// Zones that the library knows too, in years in which none of their eras begins about a fire: it lets the saving go on from era to era there, which den does not.

const (
	germany = "1977 1980 - Apr Sun>=1 1:00u 1:00 S;1977 only - Sep lastSun 1:00u 0 -;1978 only - Oct 1 1:00u 0 -;1979 1995 - Sep lastSun 1:00u 0 -;1981 max - Mar lastSun 1:00u 1:00 S;1996 max - Oct lastSun 1:00u 0 -"
	britain = "1972 1980 - Mar Sun>=16 2:00s 1:00 BST;1972 1980 - Oct Sun>=23 2:00s 0 GMT;1981 max - Mar lastSun 1:00u 1:00 BST;1981 1989 - Oct Sun>=23 1:00u 0 GMT;1990 1995 - Oct Sun>=22 1:00u 0 GMT;1996 max - Oct lastSun 1:00u 0 GMT"
	ireland = "1971 only - Oct 31 2:00u -1:00 -;1972 1980 - Mar Sun>=16 2:00u 0 -;1972 1980 - Oct Sun>=23 2:00u -1:00 -;1981 max - Mar lastSun 1:00u 0 -;1981 1989 - Oct Sun>=23 1:00u -1:00 -;1990 1995 - Oct Sun>=22 1:00u -1:00 -;1996 max - Oct lastSun 1:00u -1:00 -"
	south   = "2008 max - Apr Sun>=1 2:00s 0 S;2008 max - Oct Sun>=1 2:00s 1:00 D"
	half    = "2008 max - Apr Sun>=1 2:00 0 -;2008 max - Oct Sun>=1 2:00 0:30 -"
	pacific = "2007 max - Sep lastSun 2:45s 1:00 -;2008 max - Apr Sun>=1 2:45s 0 -"
)

func TestZonesOfTheLibrary(t *testing.T) {
	for _, x := range []struct {
		name, eras, rules string
		from, to          int
	}{
		{"Europe/Berlin", "1:00 R CE%sT", germany, 1980, 2040}, {"America/New_York", "-5:00 R E%sT", us, 1968, 2040}, {"America/Los_Angeles", "-8:00 R P%sT", us, 1968, 2024}, {"Europe/London", "0 R %s 1996;0 R GMT/BST", britain, 1973, 2040}, {"Europe/Dublin", "1:00 R IST/GMT", ireland, 1972, 2040}, {"Australia/Sydney", "10:00 R AE%sT", south, 2009, 2024}, {"Australia/Adelaide", "9:30 R AC%sT", south, 2009, 2024},
		{"Australia/Lord_Howe", "10:30 R %z", half, 2009, 2040}, {"Pacific/Chatham", "12:45 R %z", pacific, 2009, 2040}, {"Asia/Kathmandu", "5:30 - %z 1986;5:45 - %z", "", 1950, 2024}, {"America/Caracas", "-4:00 - %z 2007 Dec 9 3:00;-4:30 - %z 2016 May 1 2:30;-4:00 - %z", "", 1970, 2024}, {"Asia/Kolkata", "5:30 - IST", "", 1950, 2024},
	} {
		place, err := time.LoadLocation(x.name)
		if err != nil {
			t.Fatal(err)
		}
		z := zone(x.eras, x.rules)
		for when := yearBegin(x.from); when < yearBegin(x.to); {
			there := time.Unix(when, 0).In(place)
			abbr, off := there.Zone()
			want := fmt.Sprintf("%d %v %q", off, there.IsDST(), abbr)
			same(t, x.name+" at "+there.UTC().Format(clockForm), toldLocal(format.At(z, when)), want)
			_, end := there.ZoneBounds()
			if next := when + 86400*9; end.IsZero() || end.Unix() > next {
				when = next
			} else if when == end.Unix()-1 {
				when = end.Unix()
			} else {
				when = end.Unix() - 1
			}
		}
	}
}

// Zones by chance.

func anyOf[T any](r *rand.Rand, l ...T) T { return l[r.Intn(len(l))] }

var someShifts = []int{0, 0, 3600, 7200, -18000, 1800, -3600, 86400, -86400, 1, -1, 60}

func anyRules(r *rand.Rand) []api.Rule {
	l := make([]api.Rule, r.Intn(5))
	for i := range l {
		from := 1990 + r.Intn(20)
		l[i] = api.Rule{
			From:   from,
			To:     anyOf(r, from, from+r.Intn(20), api.Endless),
			Month:  1 + r.Intn(12),
			On:     anyOf(r, api.Day{Day: 1 + r.Intn(28)}, api.Day{Kind: 1, Week: r.Intn(7)}, api.Day{Kind: 2, Day: 8, Week: r.Intn(7)}),
			At:     api.At{Sec: anyOf(r, 0, 3600, 7200, 86400), Kind: r.Intn(3)},
			Save:   anyOf(r, someShifts...),
			Letter: anyOf(r, "", "S", "D", "XYZ", "/", "%z", "ABCDEF"),
		}
	}
	return l
}

// anyZone: most often a right zone.
func anyZone(r *rand.Rand) den.Zone {
	var z den.Zone
	n, year := 1+r.Intn(4), 1990
	for i := range n {
		e := api.Era{Off: anyOf(r, someShifts...), Kind: anyOf(r, 0, 1, 2, 2, 2), Save: anyOf(r, someShifts...), Format: anyOf(r, "CE%sT", "A%s", "%s", "%z", "A%z", "GMT/BST", "ABC/D", "UTC", "AB", "A%z/%s")}
		if i < n-1 {
			year += r.Intn(6)
			e.Until = api.Until{Has: true, Year: year, Month: 1 + r.Intn(12), On: api.Day{Day: 1 + r.Intn(28)}, At: api.At{Sec: anyOf(r, 0, 7200), Kind: r.Intn(3)}}
		}
		z.Eras, z.Rules = append(z.Eras, e), append(z.Rules, anyRules(r))
	}
	if r.Intn(10) == 0 {
		z.Eras[r.Intn(n)].Until.Has = r.Intn(2) == 0
	}
	if r.Intn(20) == 0 {
		z.Eras[r.Intn(n)].Off = anyOf(r, 86401, -86401, anyOf(r, wild...))
	}
	return z
}

// shownAt: of what den tells.
func shownAt(z den.Zone, t int64) string {
	s, k := den.At(z, t)
	if k != api.OK {
		return refused(k)
	}
	off, dst := z.Eras[s.Era].Off+s.Save, s.Save != 0
	abbr, k := modelAbbr(z.Eras[s.Era].Format, s.Letter, off, dst)
	if k != api.OK {
		return refused(k)
	}
	return fmt.Sprintf("%d %v %q", off, dst, abbr)
}

func TestZonesByChance(t *testing.T) {
	r, told := rand.New(rand.NewSource(1602)), map[api.Kind]int{}
	for range 4000 {
		z := anyZone(r)
		instants := []int64{reachBegin - 1, reachBegin, yearBegin(1990), reachEnd}
		for i := range z.Eras {
			end := den.End(z, i)
			instants = append(instants, end-1, end, end+1, yearBegin(1990+r.Intn(40))+int64(r.Intn(1<<25)))
		}
		for _, when := range instants {
			l, k := format.At(z, when)
			same(t, fmt.Sprint("At ", when, " of ", z), toldLocal(l, k), shownAt(z, when))
			told[k]++
		}
	}
	for _, k := range []api.Kind{api.OK, api.BadArg, api.Open, api.Unsorted, api.Range, api.BadFormat} {
		if told[k] < 100 {
			t.Errorf("the kind %d is answered %d times", int(k), told[k])
		}
	}
}

// P1603.

func TestOfARightZoneTheOffsetIsOffAndSave(t *testing.T) {
	r, told := rand.New(rand.NewSource(1603)), 0
	for range 1500 {
		z := anyZone(r)
		for i := range z.Eras {
			z.Eras[i].Format = anyOf(r, "UTC", "GMT/BST", "A/BCD", "A%s", "%z")
		}
		if den.Right(z) != api.OK {
			continue
		}
		for range 20 {
			when := yearBegin(1985+r.Intn(40)) + int64(r.Intn(1<<25))
			s, _ := den.At(z, when)
			l, k := format.At(z, when)
			if k == api.OK {
				same(t, fmt.Sprint("At ", when, " of ", z), fmt.Sprint(l.Off, l.Dst), fmt.Sprint(z.Eras[s.Era].Off+s.Save, s.Save != 0))
				told++
			} else { // a right zone's offset is in Abbr's bounds
				same(t, fmt.Sprint("the kind at ", when, " of ", z), fmt.Sprint(int(k)), fmt.Sprint(int(api.BadFormat)))
			}
		}
	}
	if told < 5000 {
		t.Errorf("just %d offsets", told)
	}
	for _, off := range []string{"24:00", "-24:00"} {
		z := zone(off+" "+off+" ABC 2000;"+off+" R ABC", "1 max - Jan 1 0 "+off+" -")
		for _, y := range []int{1990, 2010} {
			l, k := format.At(z, yearBegin(y))
			is(t, fmt.Sprint("the greatest offset in ", y), fmt.Sprint(int(k), l.Off == 2*z.Eras[0].Off, l.Dst), "0 true true")
		}
	}
}

// What is shared.

func TestWhatIsGivenStaysAsItWas(t *testing.T) {
	whole := func() den.Zone {
		z := zone("0:10 - LMT 1911 Mar 11;1:00 1:00 MEZ/MESZ 1950 Mar lastSun 2:00s;1:00 R CE%sT", eu)
		z.Eras = append(z.Eras, api.Era{Format: "spare"})
		z.Rules = append(z.Rules, []api.Rule{{Letter: "spare"}})
		return z
	}
	z, want := whole(), fmt.Sprint(whole())
	for n := range 4 {
		part := den.Zone{Eras: z.Eras[:n], Rules: z.Rules[:n]}
		for y := 1890; y < 2030; y += 5 {
			format.At(part, yearBegin(y))
		}
	}
	is(t, "a zone behind its calls", fmt.Sprint(z), want)
}

func TestACallKeepsNothing(t *testing.T) {
	z := zone("1:00 R CE%sT", eu)
	summer := at("2024-07-01 00:00:00")
	is(t, "at first", toldLocal(format.At(z, summer)), `7200 true "CEST"`)
	z.Eras[0].Format, z.Rules[0][0].Letter = "M%sZ", "ES"
	is(t, "another format and letter", toldLocal(format.At(z, summer)), `7200 true "MESZ"`)
	z.Eras[0].Off, z.Rules[0][0].Save, z.Eras[0].Format = 0, 1800, "%z"
	is(t, "another offset and saving", toldLocal(format.At(z, summer)), `1800 true "+0030"`)
	is(t, "the first zone again", toldLocal(format.At(zone("1:00 R CE%sT", eu), summer)), `7200 true "CEST"`)
}
