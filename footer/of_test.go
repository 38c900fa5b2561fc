package footer_test

import (
	"fmt"
	"math"
	"slices"
	"strings"
	"testing"

	"noonmark/api"
	"noonmark/den"
	"noonmark/document"
	"noonmark/footer"
	"noonmark/names"
)

// zone: of a Zone line without its begin and of those behind it, and of Rule lines without theirs; a ; stands between two, and R is the name of the rules.
func zone(eras, rules string) den.Zone {
	text := "Zone Z " + strings.ReplaceAll(eras, ";", "\n")
	for _, x := range strings.Split(rules, ";") {
		if x != "" {
			text += "\nRule R " + x
		}
	}
	d := document.Parse(text)
	s, _ := names.Make([]names.Doc{{Name: "d", D: d}})
	z, ok := den.Of(s, "Z")
	if !ok || len(z.Eras) != strings.Count(eras, ";")+1 || len(d.Diags) != 0 {
		panic(text)
	}
	return z
}

const (
	eu = "1981 max - Mar lastSun 1:00u 1:00 S;1996 max - Oct lastSun 1:00u 0 -"
	us = "1967 2006 - Oct lastSun 2:00 0 S;1967 1973 - Apr lastSun 2:00 1:00 D;1974 only - Jan 6 2:00 1:00 D;1975 only - Feb 23 2:00 1:00 D;1976 1986 - Apr lastSun 2:00 1:00 D;1987 2006 - Apr Sun>=1 2:00 1:00 D;2007 max - Mar Sun>=8 2:00 1:00 D;2007 max - Nov Sun>=1 2:00 0 S"
)

func toldYear(y int, k api.Kind) string {
	if k != api.OK {
		return fmt.Sprintf("kind %d, %d", int(k), y)
	}
	return fmt.Sprint(y)
}

// P1703: Steady.

func TestSteady(t *testing.T) {
	for _, x := range []struct{ eras, rules, want string }{
		// one era
		{"0 - UTC", "", "1"}, {"1:00 1:00 CEST", "", "1"}, {"1:00 R CE%sT", "", "1"}, {"1:00 R CE%sT", eu, "1997"}, {"-5:00 R E%sT", us, "2008"},
		{"1:00 R CE%sT", "1980 only - Jun 1 0 0 -", "1981"}, {"1:00 R CE%sT", "1980 1990 - Jun 1 0 0 -", "1991"}, {"1:00 R CE%sT", "1980 max - Jun 1 0 0 -", "1981"}, {"1:00 R CE%sT", "1980 1990 - Jun 1 0 0 -;1985 max - Jul 1 0 1:00 -", "1991"}, {"1:00 R CE%sT", "1980 1990 - Jun 1 0 0 -;1995 max - Jul 1 0 1:00 -", "1996"}, {"1:00 R CE%sT", "1980 max - Jun 1 0 0 -;1970 max - Jul 1 0 1:00 -;1975 1979 - Jul 1 0 1:00 -", "1981"}, {"1:00 R CE%sT", "1 only - Jun 1 0 0 -", "2"}, {"1:00 R CE%sT", "1 max - Jun 1 0 0 -", "2"}, {"1:00 R CE%sT", "1 150 - Jun 1 0 0 -", "151"},
		// two eras: the year of the End is that of universal time
		{"0 - A 1950;0 - B", "", "1951"}, {"1:00 - A 1950;1:00 - B", "", "1950"}, {"-1:00 - A 1950;0 - B", "", "1951"}, {"1:00 - A 1950 Jan 1 0:00u;0 - B", "", "1951"}, {"1:00 - A 1950 Jan 1 1:00;0 - B", "", "1951"}, {"1:00 - A 1950 Jan 1 0:59:59;0 - B", "", "1950"}, {"-1:00 - A 1949 Dec 31 23:00;0 - B", "", "1951"}, {"-1:00 - A 1949 Dec 31 22:59:59;0 - B", "", "1950"}, {"0 1:00 A 1950 Jan 1 0:30;0 - B", "", "1950"}, {"0 1:00 A 1950 Jan 1 0:30s;0 - B", "", "1951"}, {"0 - A 1950 Dec 31 24:00;0 - B", "", "1952"}, {"0 - A 1950 Dec 31 167:00;0 - B", "", "1952"},
		{"0 - A 1950 Jun 1;1:00 R CE%sT", eu, "1997"}, {"0 - A 1996 Jun 1;1:00 R CE%sT", eu, "1997"}, {"0 - A 1997 Jun 1;1:00 R CE%sT", eu, "1998"}, {"0 - A 2050 Jun 1;1:00 R CE%sT", eu, "2051"}, {"0 - A 1950 Jun 1;1:00 R CE%sT", "", "1951"},
		// rules of another era than the last one don't count
		{"1:00 R CE%sT 1950;1:00 - CET", eu, "1950"}, {"1:00 R CE%sT 1950;1:00 0 CET", eu, "1950"}, {"1:00 R CE%sT 1950;1:00 1:00 CET", eu, "1950"},
		// three eras: the last but one's End, and no other one
		{"0 - A 1950 Jun 1;0 - B 1960 Jun 1;0 - C", "", "1961"}, {"0 - A 1950 Jun 1;1:00 R CE%sT 1960 Jun 1;0 - C", eu, "1961"}, {"0 - A 1950 Jun 1;0 - B 1960 Jun 1;1:00 R CE%sT", "1950 1955 - Jun 1 0 0 -", "1961"}, {"0 - A 1950 Jun 1;0 - B 1960 Jun 1;1:00 R CE%sT", "1950 1965 - Jun 1 0 0 -", "1966"},
		// the first years
		{"0 - A 1;0 - B", "", "2"}, {"1:00 - A 1;0 - B", "", "1"}, {"24:00 - A 1;0 - B", "", "1"}, {"-24:00 - A 1;0 - B", "", "2"}, {"0 - A 1 Jan Sun<=1 -167:00;0 - B", "", "1"}, {"0 - A 2;0 - B", "", "3"}, {"1:00 - A 2;0 - B", "", "2"},
		// the last years, and an End out of reach
		{"0 - A 9996 Jun 1;0 - B", "", "9997"}, {"0 - A 9997 Jun 1;0 - B", "", "9998"}, {"0 - A 9998 Jun 1;0 - B", "", "9998"}, {"1:00 - A 9999;0 - B", "", "9998"}, {"0 - A 9999;0 - B", "", "9998"}, {"0 - A 9999 Jun 1;0 - B", "", "9998"}, {"0 - A 9999 Dec 31 167:00;0 - B", "", "9998"}, {"0 - A 9999 Jun 1;1:00 R CE%sT", eu, "9998"},
		{"1:00 R CE%sT", "9995 max - Jun 1 0 0 -", "9996"}, {"1:00 R CE%sT", "9996 max - Jun 1 0 0 -", "9997"}, {"1:00 R CE%sT", "9997 max - Jun 1 0 0 -", "9998"}, {"1:00 R CE%sT", "9998 max - Jun 1 0 0 -", "9998"}, {"1:00 R CE%sT", "9999 max - Jun 1 0 0 -", "9998"}, {"1:00 R CE%sT", "9950 9997 - Jun 1 0 0 -", "9998"}, {"1:00 R CE%sT", "9950 9998 - Jun 1 0 0 -", "9998"}, {"1:00 R CE%sT", "9950 9999 - Jun 1 0 0 -", "9998"},
	} {
		is(t, "Steady of "+x.eras+" and "+x.rules, toldYear(footer.Steady(zone(x.eras, x.rules))), x.want)
	}
}

func TestSteadyOfAnyYears(t *testing.T) {
	const min, max = math.MinInt, math.MaxInt
	for _, x := range []struct {
		years [][2]int
		want  int
	}{
		{[][2]int{{min, min}}, 1}, {[][2]int{{min, -1}}, 1}, {[][2]int{{-5, 0}}, 1}, {[][2]int{{-5, 1}}, 2}, {[][2]int{{min, api.Endless}}, 1}, {[][2]int{{-1, api.Endless}}, 1}, {[][2]int{{0, api.Endless}}, 1}, {[][2]int{{min, max}}, 9998}, {[][2]int{{max, max}}, 9998}, {[][2]int{{max, min}}, 9998}, {[][2]int{{2000, 1990}}, 2001}, {[][2]int{{1980, 1990}, {2000, 1990}}, 1991}, {[][2]int{{2000, 1990}, {1980, 1990}}, 2001}, {[][2]int{{1990, api.Endless + 1}}, 9998}, {[][2]int{{1990, api.Endless - 1}}, 9998}, {[][2]int{{10001, api.Endless}}, 9998}, {[][2]int{{max, api.Endless}}, 9998}, {[][2]int{{1990, max - 1}}, 9998}, {[][2]int{{1990, 1<<32 + 5}}, 9998}, {[][2]int{{1990, 1995}, {min, min}}, 1996},
	} {
		z := den.Zone{Eras: []api.Era{{Kind: 2, Format: "ABC"}}, Rules: [][]api.Rule{nil}}
		for _, y := range x.years {
			z.Rules[0] = append(z.Rules[0], api.Rule{From: y[0], To: y[1], Month: 6, On: api.Day{Day: 1}})
		}
		is(t, fmt.Sprint("Steady of ", x.years), toldYear(footer.Steady(z)), fmt.Sprint(x.want))
		for _, kind := range []int{0, 1} { // an era that does not ask for its rules has none
			z.Eras[0].Kind = kind
			is(t, fmt.Sprint("Steady of ", x.years, " of the kind ", kind), toldYear(footer.Steady(z)), "1")
		}
	}
}

// P1703: Of.

const (
	noFooter  = "kind 16"
	badFormat = "kind 15"
)

// made: what Of answers of a zone.
func made(eras, rules string) string { return shown(footer.Of(zone(eras, rules))) }

func TestTheExampleOfTheChapter(t *testing.T) {
	is(t, "the text", made("1:00 R CE%sT", eu), "CET-1CEST,M3.5.0,M10.5.0/3")
	s, k := footer.Of(zone("1:00 R CE%sT", eu))
	is(t, "the spec", toldSpec(s, k), toldSpec(cet(), api.OK))
}

func TestOfZonesWithoutARuleWithoutAnEnd(t *testing.T) {
	for _, x := range []struct{ eras, rules, want string }{
		{"0 - UTC", "", "UTC0"}, {"1:00 - CET", "", "CET-1"}, {"-3:30 - %z", "", "<-0330>3:30"}, {"5:30 - %z", "", "<+0530>-5:30"}, {"24:00 - ABC", "", "ABC-24"}, {"-24:00 - ABC", "", "ABC24"}, {"0:00:30 - ABC", "", "ABC-0:00:30"}, {"0 - GMT/BST", "", "GMT0"}, {"1:00 - AB%sC", "", "ABC-1"},
		{"1:00 R CE%sT", "", "CET-1"}, {"0 - LMT 1950;1:00 - CET", "", "CET-1"}, {"0 - LMT 1950;1:00 R CE%sT", "", "CET-1"}, {"1:00 R CE%sT 1950;2:00 - EET", eu, "EET-2"},
		// the last era's own Save
		{"1:00 0 CET", "", "CET-1"}, {"1:00 1:00 CEST", "", noFooter}, {"1:00 -1:00 GMT", "", noFooter}, {"1:00 0:00:01 CEST", "", noFooter}, {"0 - LMT 1950;1:00 1:00 CEST", "", noFooter}, {"1:00 1:00 CEST 1950;1:00 0 CET", "", "CET-1"}, {"1:00 1:00 CEST 1950;1:00 - CET", "", "CET-1"},
		// rules that have ended: the last fire of all
		{"1:00 R CE%sT", "1980 1990 - Apr 1 0 1:00 S;1980 1990 - Oct 1 0 0 X", "CEXT-1"}, {"1:00 R CE%sT", "1980 1990 - Apr 1 0 0 X;1980 1990 - Oct 1 0 1:00 S", noFooter}, {"1:00 R CE%sT", "1980 1990 - Apr 1 0 1:00 S;1980 1989 - Oct 1 0 0 X", noFooter}, {"1:00 R CE%sT", "1980 1990 - Apr 1 0 0 -;1980 1989 - Oct 1 0 1:00 X", "CET-1"}, {"1:00 R CE%sT", "1980 only - Apr 1 0 0 X", "CEXT-1"}, {"1:00 R CE%sT", "1980 only - Apr 1 0 1:00 X", noFooter}, {"1:00 R ABC/DEF", "1980 only - Apr 1 0 -1:00 X", noFooter}, {"1:00 R CE%sT", "1980 only - Dec 31 167:00 0 X;1980 only - Nov 1 0 1:00 S", "CEXT-1"},
		// all its rules are behind an End
		{"0 - LMT 2000;1:00 R CE%sT", "1980 1990 - Apr 1 0 1:00 S;1980 1990 - Oct 1 0 0 X", "CEXT-1"}, {"0 - LMT 2000;1:00 R CE%sT", "1980 1990 - Apr 1 0 1:00 S", noFooter}, {"0 - LMT 1985;1:00 R CE%sT", "1980 1990 - Apr 1 0 1:00 S;1980 1990 - Oct 1 0 0 X", "CEXT-1"},
	} {
		is(t, "Of "+x.eras+" and "+x.rules, made(x.eras, x.rules), x.want)
	}
}

func TestOfZonesWithOneRuleWithoutAnEnd(t *testing.T) {
	for _, x := range []struct{ eras, rules, want string }{
		{"1:00 R CE%sT", "1980 max - Apr 1 0 0 -", "CET-1"}, {"1:00 R CE%sT", "1980 max - Apr 1 0 0 X", "CEXT-1"}, {"1:00 R CE%sT", "1980 max - Dec 31 167:00 0 X", "CEXT-1"}, {"1:00 R CE%sT", "1 max - Apr 1 0 0 X", "CEXT-1"}, {"1:00 R CE%sT", "1980 max - Dec Sun<=3 0 0 X", "CEXT-1"}, {"1:00 R CE%sT", "1980 max - Jan Sun>=31 0 0 X", "CEXT-1"},
		// it saves alone
		{"1:00 R CE%sT", "1980 max - Apr 1 0 1:00 S", noFooter}, {"1:00 R CE%sT", "1980 max - Apr 1 0 -1:00 S", noFooter}, {"1:00 R CE%sT", "1980 max - Apr 1 0 0:00:01 S;1980 1990 - Oct 1 0 0 X", noFooter}, {"0 - LMT 1970;1:00 R CE%sT", "1980 max - Apr 1 0 1:00 S", noFooter},
		// beside rules with an end
		{"1:00 R CE%sT", "1980 max - Oct 1 0 0 X;1980 1990 - Apr 1 0 1:00 S", "CEXT-1"}, {"1:00 R CE%sT", "1980 max - Apr 1 0 0 X;1980 1990 - Oct 1 0 1:00 S", "CEXT-1"}, {"1:00 R CE%sT", "1980 1990 - Dec 31 24:00 1:00 S;1980 max - Dec 31 0 0 X", "CEXT-1"}, {"1:00 R CE%sT", "1991 max - Dec 31 167:00 0 X;1980 1990 - Oct 1 0 1:00 S", "CEXT-1"}, {"1:00 R CE%sT", "1985 max - Sep 1 0 0 X;1980 1990 - Dec 1 0 1:00 S;1980 1990 - Apr 1 0 2:00 D", "CEXT-1"}, {"1:00 R CE%sT", "1980 max - Oct 1 0 0 X;1980 1990 - Apr 1 0 0 Y", "CEXT-1"},
		// the era begins behind its first fires
		{"0 - LMT 2000;1:00 R CE%sT", "1980 max - Oct 1 0 0 X", "CEXT-1"}, {"0 - LMT 2000 Dec 1;1:00 R CE%sT", "1980 max - Oct 1 0 0 X;1980 2000 - Nov 1 0 1:00 S", "CEXT-1"},
		// it may not fire each year
		{"1:00 R CE%sT", "1980 max - Feb 29 0 0 X", noFooter}, {"1:00 R CE%sT", "1980 max - Feb Sun>=29 0 0 X", noFooter}, {"1:00 R CE%sT", "1980 max - Feb Sun<=29 0 0 X", noFooter}, {"1:00 R CE%sT", "1980 max - Feb Sun<=28 0 0 X", "CEXT-1"}, {"1:00 R CE%sT", "1980 max - Feb lastSun 0 0 X", "CEXT-1"}, {"1:00 R CE%sT", "1980 max - Oct 1 0 0 X;1980 1990 - Feb 29 0 1:00 S", "CEXT-1"},
	} {
		is(t, "Of "+x.eras+" and "+x.rules, made(x.eras, x.rules), x.want)
	}
}

func TestOfZonesWithTwoRulesWithoutAnEnd(t *testing.T) {
	const still, saves = "1990 max - Oct 1 0 0 X", "1980 max - Apr 1 0 1:00 S"
	const text = "CEXT-1CEST,J91/0,J274/0"
	for _, x := range []struct{ eras, rules, want string }{
		{"1:00 R CE%sT", still + ";" + saves, text}, {"1:00 R CE%sT", saves + ";" + still, text}, {"0 - LMT 2050;1:00 R CE%sT", saves + ";" + still, text},
		{"1:00 R CE%sT", "1970 1980 - Jun 1 0 0 Y;" + still + ";1985 2030 - Jun 1 0 2:00 Y;" + saves, text}, {"1:00 R CE%sT", still + ";" + saves + ";1980 2020 - Feb 29 0 0 Z", text},
		// the end of the saving is ahead of its start in a year
		{"1:00 R CE%sT", "1990 max - Oct 1 0 1:00 S;1980 max - Apr 1 0 0 X", "CEXT-1CEST,J274/0,J91/0"},
		// savings
		{"1:00 R CE%sT", still + ";1980 max - Apr 1 0 0:30 S", "CEXT-1CEST-1:30,J91/0,J274/0"}, {"1:00 R IST/GMT", still + ";1980 max - Apr 1 0 -1:00 S", "IST-1GMT0,J91/0,J274/0"}, {"1:00 R CE%sT", still + ";1980 max - Apr 1 0 2:00 S", "CEXT-1CEST-3,J91/0,J274/0"}, {"-1:00 R CE%sT", still + ";1980 max - Apr 1 0 0:00:01 S", "CEXT1CEST0:59:59,J91/0,J274/0"},
		// abbreviations
		{"10:30 R %z", still + ";1980 max - Apr 1 0 0:30 S", "<+1030>-10:30<+11>-11,J91/0,J274/0"}, {"0 R GMT/BST", still + ";" + saves, "GMT0BST,J91/0,J274/0"}, {"0 R ABC", still + ";" + saves, "ABC0ABC,J91/0,J274/0"},
		{"1:00 R ABC%s", "1990 max - Oct 1 0 0 -;1980 max - Apr 1 0 1:00 DEFG", badFormat}, {"1:00 R ABC%s", "1990 max - Oct 1 0 0 DEFG;1980 max - Apr 1 0 1:00 -", badFormat}, {"1:00 R A%s", still + ";" + saves, badFormat}, {"1:00 R ABC/DE", still + ";" + saves, badFormat}, {"1:00 R AB/CDE", still + ";" + saves, badFormat}, {"1:00 R %z", still + ";1980 max - Apr 1 0 0:00:01 S", badFormat}, {"1:00:01 R %z", still + ";1980 max - Apr 1 0 0:59:59 S", badFormat},
		// both save, none does
		{"1:00 R CE%sT", "1990 max - Oct 1 0 1:00 X;" + saves, noFooter}, {"1:00 R CE%sT", "1990 max - Oct 1 0 2:00 X;" + saves, noFooter}, {"1:00 R CE%sT", "1990 max - Oct 1 0 -1:00 X;" + saves, noFooter}, {"1:00 R CE%sT", still + ";1980 max - Apr 1 0 0 S", noFooter}, {"1:00 R CE%sT", "1990 max - Oct 1 0 1:00 X;" + saves + ";1990 1995 - Jun 1 0 0 X", noFooter},
		// three of them
		{"1:00 R CE%sT", still + ";" + saves + ";1990 max - Jun 1 0 0 X", noFooter}, {"1:00 R CE%sT", still + ";" + saves + ";1990 max - Jun 1 0 1:00 X", noFooter}, {"1:00 R CE%sT", still + ";" + saves + ";1990 max - Jun 1 0 2:00 X", noFooter}, {"1:00 R CE%sT", still + ";" + still + ";" + still, noFooter}, {"1:00 R CE%sT", saves + ";" + saves + ";" + saves, noFooter}, {"1:00 R CE%sT", still + ";" + saves + ";" + still + ";" + saves, noFooter},
		// one of them does not fire each year
		{"1:00 R CE%sT", still + ";1980 max - Feb 29 0 1:00 S", noFooter}, {"1:00 R CE%sT", "1990 max - Feb 29 0 0 X;" + saves, noFooter}, {"1:00 R CE%sT", "1990 max - Feb Mon<=29 0 0 X;" + saves, noFooter}, {"1:00 R CE%sT", "1990 max - Feb Mon>=29 0 0 X;" + saves, noFooter}, {"1:00 R CE%sT", still + ";" + saves + ";1980 max - Feb 29 0 0 Z", noFooter},
		// DOff
		{"23:00 R ABC", still + ";" + saves, "ABC-23ABC,J91/0,J274/0"}, {"24:00 R ABC", still + ";" + saves, noFooter}, {"23:00 R ABC", still + ";1980 max - Apr 1 0 1:00:01 S", noFooter}, {"23:59:59 R ABC", still + ";1980 max - Apr 1 0 0:00:01 S", "ABC-23:59:59ABC-24,J91/0,J274/0"}, {"-24:00 R ABC", still + ";" + saves, "ABC24ABC,J91/0,J274/0"}, {"-24:00 R ABC", still + ";1980 max - Apr 1 0 -0:00:01 S", noFooter}, {"-23:00 R ABC", still + ";1980 max - Apr 1 0 -1:00 S", "ABC23ABC24,J91/0,J274/0"}, {"24:00 R ABC", still + ";1980 max - Apr 1 0 24:00 S", noFooter}, {"-24:00 R ABC", still + ";1980 max - Apr 1 0 -24:00 S", noFooter}, {"-24:00 R ABC", still + ";1980 max - Apr 1 0 24:00 S", "ABC24ABC0,J91/0,J274/0"}, {"0 R ABC", still + ";1980 max - Apr 1 0 24:00 S", "ABC0ABC-24,J91/0,J274/0"},
		// NoFooter ahead of BadFormat
		{"24:00 R A", still + ";" + saves, noFooter}, {"1:00 R A", still + ";1980 max - Sep 1 0 1:00 S", noFooter}, {"1:00 R A", still + ";1980 max - Apr Sun>=29 0 1:00 S", noFooter}, {"1:00 R A", "1990 max - Oct Sun>=29 0 0 X;" + saves, noFooter}, {"1:00 R A", still + ";1980 max - Apr 1 0 0 S", noFooter}, {"1:00 R A", still + ";" + saves + ";" + still, noFooter}, {"1:00 R A", still + ";1980 max - Feb 29 0 1:00 S", noFooter},
		// years far out make no difference
		{"1:00 R CE%sT", "9999 max - Oct 1 0 0 X;9998 max - Apr 1 0 1:00 S", text}, {"0 - LMT 9999 Jun 1;1:00 R CE%sT", still + ";" + saves, text}, {"1:00 R CE%sT", "1 max - Oct 1 0 0 X;1 max - Apr 1 0 1:00 S", text},
	} {
		is(t, "Of "+x.eras+" and "+x.rules, made(x.eras, x.rules), x.want)
	}
}

var monthNames = []string{"", "Jan", "Feb", "Mar", "Apr", "May", "Jun", "Jul", "Aug", "Sep", "Oct", "Nov", "Dec"}

func TestOfRulesOfAnyTwoMonths(t *testing.T) {
	for a := 1; a <= 12; a++ {
		for b := 1; b <= 12; b++ {
			want := noFooter
			if n := max(a-b, b-a); n >= 2 && n <= 10 {
				want = fmt.Sprintf("CEXT-1CEST,M%d.5.0,M%d.5.0", a, b)
			}
			is(t, fmt.Sprint("Of months ", a, " and ", b), made("1:00 R CE%sT", fmt.Sprintf("1990 max - %s lastSun 2:00 1:00 S;1990 max - %s lastSun 2:00 0 X", monthNames[a], monthNames[b])), want)
		}
	}
}

func TestOfWhatIsToldInJune(t *testing.T) {
	for _, x := range []struct{ eras, rules, want string }{
		// that June may be out of reach
		{"1:00 R CE%sT", "9995 max - Apr 1 0 0 X", "CEXT-1"}, {"1:00 R CE%sT", "9996 max - Apr 1 0 0 X", "CEXT-1"}, {"1:00 R CE%sT", "9997 max - Apr 1 0 0 X", kind(api.Range)}, {"1:00 R CE%sT", "9999 max - Apr 1 0 0 X", kind(api.Range)}, {"1:00 R CE%sT", "9950 9996 - Apr 1 0 0 X", "CEXT-1"}, {"1:00 R CE%sT", "9950 9997 - Apr 1 0 0 X", kind(api.Range)}, {"1:00 R CE%sT", "9950 9998 - Apr 1 0 1:00 X", kind(api.Range)}, {"0 - LMT 9996 Dec 1;1:00 - CET", "", "CET-1"}, {"0 - LMT 9997 Jan 2;1:00 - CET", "", kind(api.Range)}, {"0 - LMT 9999 Jun 1;1:00 - CET", "", kind(api.Range)}, {"0 - LMT 9999 Jun 1;1:00 1:00 CET", "", kind(api.Range)}, {"0 - LMT 9999 Jun 1;1:00 R A", "", kind(api.Range)},
		// NoFooter ahead of that, by the rules alone
		{"1:00 R CE%sT", "9999 max - Apr 1 0 1:00 X", noFooter}, {"0 - LMT 9999 Jun 1;1:00 R CE%sT", "1990 max - Feb 29 0 0 X", noFooter},
		// a format that makes none there, ahead of NoFooter for what is told there
		{"1:00 - A", "", badFormat}, {"1:00 - A%s", "", badFormat}, {"1:00:01 - %z", "", badFormat}, {"1:00 1:00 A", "", badFormat}, {"1:00 1:00 ABC/D", "", badFormat}, {"1:00 1:00 A/BCD", "", noFooter}, {"1:00 - ABC/D", "", "ABC-1"}, {"1:00 - A/BCD", "", badFormat}, {"1:00 R A%s", "1980 max - Apr 1 0 0 -", badFormat}, {"1:00 R A%s", "1980 max - Apr 1 0 0 BC", "ABC-1"}, {"1:00 R A%s", "1980 1990 - Apr 1 0 1:00 -", badFormat}, {"1:00 R A%s", "1980 1990 - Apr 1 0 1:00 BC", noFooter}, {"1:00 R A%s", "1980 max - Apr 1 0 1:00 -", noFooter},
		// just the last era's, and what is told then
		{"1:00 - A 1950;1:00 - CET", "", "CET-1"}, {"1:00 - CET 1950;1:00 - A", "", badFormat}, {"1:00 R A%s", "1980 max - Oct 1 0 0 BC;1980 1990 - Apr 1 0 1:00 -", "ABC-1"},
	} {
		is(t, "Of "+x.eras+" and "+x.rules, made(x.eras, x.rules), x.want)
	}
}

func TestOfErasThatDoNotAskForTheirRules(t *testing.T) {
	for _, kind := range []int{0, 1} {
		for _, rules := range []string{eu, us, "1980 max - Apr 1 0 1:00 S", "1980 max - Feb 29 0 0 X", "9999 max - Apr 1 0 0 X", "1980 1990 - Apr 1 0 1:00 S"} {
			z := zone("1:00 R CE%sT", rules)
			z.Eras[0].Kind = kind
			is(t, fmt.Sprint("Of an era of the kind ", kind, " with ", rules), shown(footer.Of(z)), "CET-1")
			z = zone("1:00 R CE%sT 2020;2:00 R EET", rules)
			z.Eras[1].Kind = kind
			is(t, fmt.Sprint("Of a second era of the kind ", kind, " with ", rules), shown(footer.Of(z)), "EET-2")
		}
	}
}

func TestZonesThatAreNotRight(t *testing.T) {
	for _, x := range []struct {
		what string
		do   func(z *den.Zone)
		want api.Kind
	}{
		{"nothing", func(z *den.Zone) {}, api.OK},
		{"no era", func(z *den.Zone) { *z = den.Zone{} }, api.BadArg},
		{"no era, but rules", func(z *den.Zone) { z.Eras = nil }, api.BadArg},
		{"no Rules", func(z *den.Zone) { z.Rules = nil }, api.BadArg},
		{"too few Rules", func(z *den.Zone) { z.Rules = z.Rules[:2] }, api.BadArg},
		{"more Rules", func(z *den.Zone) { z.Rules = append(z.Rules, nil) }, api.BadArg},
		{"too many eras", func(z *den.Zone) { z.Eras, z.Rules = slices.Repeat(z.Eras, 3), slices.Repeat(z.Rules, 3) }, api.BadArg},
		{"too many rules", func(z *den.Zone) { z.Rules[2] = slices.Repeat(z.Rules[2], 13) }, api.BadArg},
		{"an Off of more than a day", func(z *den.Zone) { z.Eras[2].Off = 86401 }, api.BadArg},
		{"an Off far out", func(z *den.Zone) { z.Eras[2].Off = math.MinInt }, api.BadArg},
		{"a rule's Save of more than a day", func(z *den.Zone) { z.Rules[2][0].Save = 86401 }, api.BadArg},
		{"a rule's Save far out", func(z *den.Zone) { z.Rules[2][0].Save = math.MaxInt }, api.BadArg},
		{"a rule's Sec far out", func(z *den.Zone) { z.Rules[2][1].At.Sec = math.MinInt }, api.BadArg},
		{"a rule's kind of time that is none", func(z *den.Zone) { z.Rules[2][1].At.Kind = 3 }, api.BadArg},
		{"a Save of more than a day", func(z *den.Zone) { z.Eras[1].Save = -86401 }, api.BadArg},
		{"a Kind that is none", func(z *den.Zone) { z.Eras[2].Kind = 3 }, api.BadArg},
		{"an until's day that is none", func(z *den.Zone) { z.Eras[1].Until.On.Day = 32 }, api.BadArg},
		{"an era that goes on", func(z *den.Zone) { z.Eras[1].Until.Has = false }, api.Open},
		{"a last era that ends", func(z *den.Zone) { z.Eras[2].Until = z.Eras[1].Until }, api.Open},
		{"eras out of order", func(z *den.Zone) { z.Eras[0].Until.Year = 1960 }, api.Unsorted},
	} {
		for _, form := range []string{"CE%sT", "A"} {
			for _, rules := range []string{eu, eu + ";1990 max - Feb 29 0 0 -"} {
				z := zone("0:10 - LMT 1911 Mar 11;1:00 1:00 MEZ/MESZ 1950 Mar lastSun 2:00s;1:00 R "+form, rules)
				x.do(&z)
				if x.want != api.OK { // ahead of NoFooter, BadFormat
					is(t, "Steady with "+x.what, toldYear(footer.Steady(z)), toldYear(0, x.want))
					is(t, "Of with "+x.what, shown(footer.Of(z)), kind(x.want))
				}
			}
		}
	}
	is(t, "Steady without a change", toldYear(footer.Steady(zone("0 - LMT 1911;1:00 1:00 MEZ/MESZ 1950;1:00 R CE%sT", eu))), "1997")
}

// Rules that no line makes.

func TestOfRulesThatNoLineMakes(t *testing.T) {
	for _, x := range []struct {
		what string
		do   func(r *api.Rule)
		want string
	}{
		{"nothing", func(r *api.Rule) {}, "CET-1CEST,M3.5.0,M10.5.0/3"},
		{"a name", func(r *api.Rule) { r.Name = "Other" }, "CET-1CEST,M3.5.0,M10.5.0/3"},
		{"a month of 0", func(r *api.Rule) { r.Month = 0 }, noFooter},
		{"a month of 13", func(r *api.Rule) { r.Month = 13 }, noFooter},
		{"a month far out", func(r *api.Rule) { r.Month = math.MinInt }, noFooter},
		{"a month far out behind", func(r *api.Rule) { r.Month = math.MaxInt }, noFooter},
		{"a kind of day that is none", func(r *api.Rule) { r.On.Kind = 4 }, noFooter},
		{"a kind of day below 0", func(r *api.Rule) { r.On.Kind = -1 }, noFooter},
		{"a kind of day far out", func(r *api.Rule) { r.On.Kind = 1<<32 + 1 }, noFooter},
		{"a week of 7", func(r *api.Rule) { r.On.Week = 7 }, noFooter},
		{"a week of -1", func(r *api.Rule) { r.On.Week = -1 }, noFooter},
		{"a last day with a Day", func(r *api.Rule) { r.On.Day = 5 }, noFooter},
		{"a day of 0", func(r *api.Rule) { r.On = api.Day{} }, noFooter},
		{"a day of 32", func(r *api.Rule) { r.On = api.Day{Day: 32} }, noFooter},
		{"a day far out", func(r *api.Rule) { r.On = api.Day{Kind: 2, Day: math.MaxInt} }, noFooter},
		{"a day far ahead", func(r *api.Rule) { r.On = api.Day{Kind: 3, Day: math.MinInt} }, noFooter},
		{"a day of the month with a Week", func(r *api.Rule) { r.On = api.Day{Day: 5, Week: 2} }, noFooter},
		{"an end far out", func(r *api.Rule) { r.To = math.MaxInt }, ""},
		{"an end just beyond", func(r *api.Rule) { r.To = api.Endless + 1 }, ""},
		{"an end just ahead", func(r *api.Rule) { r.To = api.Endless - 1 }, ""},
		{"a begin far ahead", func(r *api.Rule) { r.From = math.MinInt }, "CET-1CEST,M3.5.0,M10.5.0/3"},
		{"a begin far out", func(r *api.Rule) { r.From = math.MaxInt }, "CET-1CEST,M3.5.0,M10.5.0/3"},
	} {
		for i := range 2 {
			z := zone("1:00 R CE%sT", eu)
			x.do(&z.Rules[0][i])
			want := x.want
			if want == "" { // the other one is alone
				want = []string{kind(api.Range), noFooter}[i]
			}
			is(t, fmt.Sprint("Of the rule ", i, " with ", x.what), shown(footer.Of(z)), want)
		}
	}
}
