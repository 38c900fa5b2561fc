package den_test

import (
	"fmt"
	"math"
	"slices"
	"strings"
	"testing"
	"time"

	"noonmark/api"
	"noonmark/den"
	"noonmark/document"
	"noonmark/expand"
	"noonmark/names"
)

func is(t *testing.T, what, got, want string) {
	t.Helper()
	if got != want {
		t.Errorf("%.600s: %.600s, not %.600s", what, got, want)
	}
}

// same is for long loops: it stops at the first fault.
func same(t *testing.T, what, got, want string) {
	t.Helper()
	if got != want {
		t.Fatalf("%.1600s: %.600s, not %.600s", what, got, want)
	}
}

const clockForm = "2006-01-02 15:04:05"

// at: an instant.
func at(s string) int64 {
	x, err := time.Parse(clockForm, s)
	if err != nil {
		panic(err)
	}
	return x.Unix()
}

func shown(t int64) string { return time.Unix(t, 0).UTC().Format(clockForm) }

func yearBegin(y int) int64 { return time.Date(y, 1, 1, 0, 0, 0, 0, time.UTC).Unix() }

func toldSaving(save int, letter string) string { return fmt.Sprintf("%d %q", save, letter) }

func toldState(s den.State, k api.Kind) string {
	if k != api.OK {
		return fmt.Sprintf("kind %d, %v", int(k), s)
	}
	return fmt.Sprintf("%d %d %q", s.Era, s.Save, s.Letter)
}

func toldZone(z den.Zone, ok bool) string { return fmt.Sprint(ok, " ", z.Eras, " ", z.Rules) }

// space: of sources.
func space(texts ...string) *names.Space {
	var l []names.Doc
	for i, s := range texts {
		l = append(l, names.Doc{Name: fmt.Sprint("d", i), D: document.Parse(s)})
	}
	s, k := names.Make(l)
	if k != api.OK || slices.ContainsFunc(s.Diags(), func(d api.Diag) bool { return d.K == api.Syntax || d.K == api.Fields }) {
		panic(fmt.Sprint(texts))
	}
	return s
}

// rules: of Rule lines without their begin; a ; stands between two.
func rules(s string) []api.Rule {
	var text strings.Builder
	n := 0
	for _, x := range strings.Split(s, ";") {
		if x != "" {
			text.WriteString("Rule R " + x + "\n")
			n++
		}
	}
	l, _ := space(text.String()).Rules("R")
	if len(l) != n {
		panic(s)
	}
	return l
}

// zone: of a Zone line without its begin and of those behind it; a ; stands between two, and R is the name of the rules.
func zone(eras, ruleLines string) den.Zone {
	z, ok := den.Of(space("Zone Z "+strings.ReplaceAll(eras, ";", "\n")), "Z")
	if !ok || len(z.Eras) != strings.Count(eras, ";")+1 {
		panic(eras)
	}
	for i, e := range z.Eras {
		if e.Kind == 2 {
			z.Rules[i] = rules(ruleLines)
		}
	}
	return z
}

const (
	eu    = "1981 max - Mar lastSun 1:00u 1:00 S;1996 max - Oct lastSun 1:00u 0 -"
	us    = "1967 2006 - Oct lastSun 2:00 0 S;1967 1973 - Apr lastSun 2:00 1:00 D;1974 only - Jan 6 2:00 1:00 D;1975 only - Feb 23 2:00 1:00 D;1976 1986 - Apr lastSun 2:00 1:00 D;1987 2006 - Apr Sun>=1 2:00 1:00 D;2007 max - Mar Sun>=8 2:00 1:00 D;2007 max - Nov Sun>=1 2:00 0 S"
	south = "2008 max - Apr Sun>=1 2:00s 0 S;2008 max - Oct Sun>=1 2:00s 1:00 D"
)

// wild: numbers far out; some would be right, if their high bits were dropped.
var wild = []int{
	math.MinInt, math.MinInt + 1, math.MinInt + 3600, math.MinInt + 86400, math.MinInt32, -1 << 32, -1<<32 + 2000, -65536, -10000,
	10000, 65536 + 2000, 1 << 32, 1<<32 + 2, 1<<32 + 3600, 1 << 40, 1<<40 + 1, -1 << 41, math.MaxInt32, math.MaxInt - 86400, math.MaxInt - 1, math.MaxInt,
}

// P1501: Of.

const source = `Rule EU 1981 max - Mar lastSun 1:00u 1:00 S
Rule EU 1996 max - Oct lastSun 1:00u 0 -
Rule X 1990 only - Jun 1 0 1:00 -
Zone Plain 1:00 - A
Zone Always 1:00 0:30 B
Zone By 1:00 EU CE%sT
Zone Without 2:00 None D
Zone Many 0:10 - LMT 1911 Mar 11
 1:00 EU CE%sT 1950
 1:00 1:00 CEST 1951 Jun lastSun 2:00s
 0:30 X F%sT 1990
 1:00 EU CE%sT
Link Many One
Link One Two
Link Two Three
Link Nowhere Lost
Link Lost Loster
Link Round About
Link About Round
Link Self Self`

func TestOf(t *testing.T) {
	s := space(source)
	euRules, _ := s.Rules("EU")
	xRules, _ := s.Rules("X")
	for _, x := range []struct {
		name, zone string
		rules      [][]api.Rule
	}{
		{"Plain", "Plain", [][]api.Rule{nil}}, {"Always", "Always", [][]api.Rule{nil}}, {"By", "By", [][]api.Rule{euRules}}, {"Without", "Without", [][]api.Rule{nil}},
		{"Many", "Many", [][]api.Rule{nil, euRules, nil, xRules, euRules}}, {"One", "Many", [][]api.Rule{nil, euRules, nil, xRules, euRules}}, {"Two", "Many", [][]api.Rule{nil, euRules, nil, xRules, euRules}}, {"Three", "Many", [][]api.Rule{nil, euRules, nil, xRules, euRules}},
	} {
		z, _, _ := s.Zone(x.zone)
		is(t, "Of "+x.name, toldZone(den.Of(s, x.name)), toldZone(den.Zone{Eras: z.Eras, Rules: x.rules}, true))
	}
	many, _ := den.Of(s, "Three")
	is(t, "eras of Three", fmt.Sprint(len(many.Eras), many.Eras[0].Off, many.Eras[2].Save, " ", many.Eras[3].Rules, " ", len(many.Rules), len(many.Rules[0]), len(many.Rules[1]), len(many.Rules[2]), len(many.Rules[3])), "5 600 3600 X 5 0 2 0 1")
	for _, name := range []string{"", "Nothing", "plain", "Plain ", "EU", "X", "None", "Nowhere", "Lost", "Loster", "Round", "About", "Self", "Three\x00"} {
		is(t, "Of "+name, toldZone(den.Of(s, name)), toldZone(den.Zone{}, false))
	}
}

func TestOfNoSpace(t *testing.T) {
	none, _ := names.Make(nil)
	for _, name := range []string{"", "Z"} {
		is(t, "Of nil", toldZone(den.Of(nil, name)), toldZone(den.Zone{}, false))
		is(t, "Of a space of no document", toldZone(den.Of(none, name)), toldZone(den.Zone{}, false))
		is(t, "Of a space that Make did not make", toldZone(den.Of(&names.Space{}, name)), toldZone(den.Zone{}, false))
	}
}

func TestOfNamesInSeveralDocuments(t *testing.T) {
	s := space("Zone A 1:00 R X%s\nLink C D", "Rule R 1990 only - Jun 1 0 1:00 -\nZone A 2:00 - Y", "Rule R 1980 only - Jun 1 0 0 -\nLink A C\nZone D 3:00 - Z")
	for _, name := range []string{"A", "C", "D"} {
		z, ok := den.Of(s, name)
		is(t, "Of "+name, fmt.Sprint(ok, len(z.Eras), z.Eras[0].Off, len(z.Rules[0]), z.Rules[0][0].From, z.Rules[0][1].From), "true 1 3600 2 1990 1980")
	}
}

func TestOfZonesThatNoTextMakes(t *testing.T) {
	eras := []api.Era{{Kind: 3, Rules: "R"}, {Kind: -1, Rules: "R"}, {Kind: 2, Rules: ""}, {Kind: 1, Rules: "R"}, {Kind: 0, Rules: "R"}, {Kind: 2, Rules: "R"}, {Kind: math.MaxInt, Rules: "R"}}
	s, _ := names.Make([]names.Doc{{Name: "d", D: document.Doc{Zones: []document.Zone{{Name: "Empty"}, {Name: "Odd", Eras: eras}}, Rules: []document.Rule{{R: api.Rule{Name: "R", From: 7}}, {R: api.Rule{From: 9}}}}}})
	z, ok := den.Of(s, "Empty")
	is(t, "Of a zone without an era", fmt.Sprint(ok, len(z.Eras), len(z.Rules)), "true 0 0")
	z, ok = den.Of(s, "Odd")
	is(t, "Of a zone of any kinds", fmt.Sprint(ok, slices.Equal(z.Eras, eras), len(z.Rules)), "true true 7")
	var years []string
	for _, l := range z.Rules {
		years = append(years, fmt.Sprint(len(l)))
		for _, r := range l {
			years = append(years, fmt.Sprint("from ", r.From))
		}
	}
	is(t, "its rules", strings.Join(years, " "), "0 0 1 from 9 0 0 1 from 7 0")
}

func TestOfManyRules(t *testing.T) {
	var text strings.Builder
	for y := range 30 {
		fmt.Fprintf(&text, "Rule R %d max - Jun 1 0 0 -\nRule R %d %d - Jun 1 0 0 -\n", 1900+y, 1900+y, 2051+y)
	}
	z, _ := den.Of(space(text.String()+"Zone A 0 R A"), "A")
	is(t, "rules, none of which lasts too long", fmt.Sprint(len(z.Rules[0]), z.Rules[0][23].From, z.Rules[0][23].To), "24 1923 10000")
	is(t, "Right of these", fmt.Sprint(int(den.Right(z))), "0")
}

// P1502: Right.

// change: of a zone that is right, and the kind that it has then.
type change struct {
	what string
	do   func(z *den.Zone)
	want api.Kind
}

const threeEras = "0:10 - LMT 1911 Mar 11;1:00 1:00 B 1950 Mar lastSun 2:00s;1:00 R CE%sT"

func changes() []change {
	list := []change{
		{"nothing", func(z *den.Zone) {}, api.OK},
		{"no era", func(z *den.Zone) { *z = den.Zone{} }, api.BadArg},
		{"no era, but rules", func(z *den.Zone) { z.Eras = nil }, api.BadArg},
		{"no Rules", func(z *den.Zone) { z.Rules = nil }, api.BadArg},
		{"fewer Rules", func(z *den.Zone) { z.Rules = z.Rules[1:] }, api.BadArg},
		{"more Rules", func(z *den.Zone) { z.Rules = append(z.Rules, nil) }, api.BadArg},
		{"the last era without its rules", func(z *den.Zone) { z.Rules[2] = nil }, api.OK},
		{"rules that no era asks for", func(z *den.Zone) { z.Rules[0], z.Rules[1] = rules(eu), rules(us) }, api.OK},
		{"the second era without an until", func(z *den.Zone) { z.Eras[1].Until.Has = false }, api.Open},
		{"the first era without an until", func(z *den.Zone) { z.Eras[0].Until = api.Until{} }, api.Open},
		{"the last era with an until", func(z *den.Zone) { z.Eras[2].Until = z.Eras[1].Until; z.Eras[2].Until.Year = 2000 }, api.Open},
		{"an until in the last era alone", func(z *den.Zone) {
			z.Eras[2].Until = z.Eras[1].Until
			z.Eras[0].Until.Has, z.Eras[1].Until.Has = false, false
		}, api.Open},
		{"falling Ends", func(z *den.Zone) { z.Eras[1].Until.Year = 1900 }, api.Unsorted},
		{"equal Ends", func(z *den.Zone) { z.Eras[0] = z.Eras[1] }, api.Unsorted},
		{"the same era as the first, last", func(z *den.Zone) { z.Eras[2] = z.Eras[0]; z.Eras[2].Until.Has = false }, api.OK},
		{"an until that is none, of any numbers", func(z *den.Zone) {
			z.Eras[2].Until = api.Until{Year: -1, Month: 13, On: api.Day{Kind: 9}, At: api.At{Sec: math.MinInt, Kind: 3}}
		}, api.OK},
		{"a rule of any years, month and day", func(z *den.Zone) {
			z.Rules[2] = append(z.Rules[2], api.Rule{From: math.MaxInt, To: math.MinInt, Month: -1, On: api.Day{Kind: 7, Day: 99}})
		}, api.OK},
		{"any names and formats", func(z *den.Zone) {
			z.Eras[0].Rules, z.Eras[0].Format, z.Eras[2].Rules, z.Eras[2].Format = "\xff", "", "", "//%s%z"
		}, api.OK},
		{"MaxRules rules", func(z *den.Zone) { z.Rules[2] = make([]api.Rule, 24) }, api.OK},
		{"one rule more", func(z *den.Zone) { z.Rules[2] = make([]api.Rule, 25) }, api.BadArg},
		{"one rule more, that no era asks for", func(z *den.Zone) { z.Rules[0] = make([]api.Rule, 25) }, api.BadArg},
	}
	list = append(list, manyEras()...)
	list = append(list, numbers()...)
	return append(list, untils()...)
}

// manyEras: all right, one behind the other.
func manyEras() []change {
	var l []change
	for _, n := range []int{1, 2, 7, 8, 9, 10, 100} {
		want := api.OK
		if n > 8 {
			want = api.BadArg
		}
		l = append(l, change{fmt.Sprint(n, " eras"), func(z *den.Zone) {
			z.Eras, z.Rules = make([]api.Era, n), make([][]api.Rule, n)
			for i := range n - 1 {
				z.Eras[i].Until = api.Until{Has: true, Year: 1900 + i, Month: 1, On: api.Day{Day: 1}}
			}
		}, want})
	}
	return l
}

// numbers: each at its bounds, one beyond them, and far out.
func numbers() []change {
	var l []change
	put := func(what string, place func(z *den.Zone) *int, least, most int) {
		for _, n := range append([]int{least, most, least - 1, most + 1, 0, 1}, wild...) {
			want := api.OK
			if n < least || n > most {
				want = api.BadArg
			}
			l = append(l, change{fmt.Sprint(what, " ", n), func(z *den.Zone) { *place(z) = n }, want})
		}
	}
	for i := range 3 {
		put(fmt.Sprint("Off of era ", i), func(z *den.Zone) *int { return &z.Eras[i].Off }, -86400, 86400)
		put(fmt.Sprint("Kind of era ", i), func(z *den.Zone) *int { return &z.Eras[i].Kind }, 0, 2)
		most := math.MaxInt - 1
		if i == 1 {
			most = 86400
		}
		for _, n := range append([]int{-86400, 86400, -86401, 86401}, wild...) {
			want := api.OK
			if i == 1 && (n < -most || n > most) {
				want = api.BadArg
			}
			l = append(l, change{fmt.Sprint("Save of era ", i, " ", n), func(z *den.Zone) { z.Eras[i].Save = n }, want})
		}
		for j := range 2 {
			more := func(z *den.Zone) *api.Rule {
				if len(z.Rules[i]) == 0 {
					z.Rules[i] = rules(eu)
				}
				return &z.Rules[i][j]
			}
			what := fmt.Sprint(" of rule ", j, " of era ", i)
			put("Save"+what, func(z *den.Zone) *int { return &more(z).Save }, -86400, 86400)
			put("Sec"+what, func(z *den.Zone) *int { return &more(z).At.Sec }, -604799, 604799)
			put("Kind of time"+what, func(z *den.Zone) *int { return &more(z).At.Kind }, 0, 2)
		}
	}
	for i := range 2 {
		put(fmt.Sprint("Sec of until ", i), func(z *den.Zone) *int { return &z.Eras[i].Until.At.Sec }, -604799, 604799)
		put(fmt.Sprint("Kind of time of until ", i), func(z *den.Zone) *int { return &z.Eras[i].Until.At.Kind }, 0, 2)
		put(fmt.Sprint("Month of until ", i), func(z *den.Zone) *int { return &z.Eras[i].Until.Month }, 1, 12)
	}
	return l
}

// untils: of the second era; the first one ends at the begin of the year 1, or is not there.
func untils() []change {
	var l []change
	for _, x := range []struct {
		year, month int
		on          api.Day
		want        api.Kind
	}{
		{2023, 2, api.Day{Day: 28}, api.OK}, {2023, 2, api.Day{Day: 29}, api.BadArg}, {2024, 2, api.Day{Day: 29}, api.OK}, {2024, 2, api.Day{Day: 30}, api.BadArg}, {1900, 2, api.Day{Day: 29}, api.BadArg}, {2000, 2, api.Day{Day: 29}, api.OK}, {2000, 4, api.Day{Day: 30}, api.OK}, {2000, 4, api.Day{Day: 31}, api.BadArg}, {2000, 12, api.Day{Day: 31}, api.OK}, {2000, 12, api.Day{Day: 32}, api.BadArg}, {2000, 12, api.Day{Day: 0}, api.BadArg}, {2000, 12, api.Day{Day: -1}, api.BadArg},
		{2023, 2, api.Day{Kind: 2, Day: 29}, api.BadArg}, {2023, 2, api.Day{Kind: 2, Day: 28}, api.OK}, {2024, 2, api.Day{Kind: 2, Day: 29}, api.OK}, {2023, 2, api.Day{Kind: 3, Day: 29}, api.BadArg}, {2023, 2, api.Day{Kind: 1}, api.OK}, {2000, 4, api.Day{Kind: 3, Day: 31}, api.BadArg}, {2000, 12, api.Day{Kind: 2, Day: 31}, api.OK},
		{2000, 1, api.Day{Kind: 1, Day: 1}, api.BadArg}, {2000, 1, api.Day{Kind: 1, Week: 6}, api.OK}, {2000, 1, api.Day{Kind: 1, Week: 7}, api.BadArg}, {2000, 1, api.Day{Kind: 2, Day: 1, Week: 7}, api.BadArg}, {2000, 1, api.Day{Kind: 3, Day: 1, Week: -1}, api.BadArg}, {2000, 1, api.Day{Day: 1, Week: 1}, api.BadArg}, {2000, 1, api.Day{Kind: 4, Day: 1}, api.BadArg}, {2000, 1, api.Day{Kind: -1, Day: 1}, api.BadArg},
		{2000, 0, api.Day{Day: 1}, api.BadArg}, {2000, 13, api.Day{Day: 1}, api.BadArg}, {2000, -1, api.Day{Kind: 1}, api.BadArg},
		{1, 1, api.Day{Day: 2}, api.OK}, {1, 12, api.Day{Day: 31}, api.OK}, {0, 12, api.Day{Day: 31}, api.BadArg}, {-1, 1, api.Day{Day: 1}, api.BadArg}, {-2000, 1, api.Day{Day: 1}, api.BadArg}, {9998, 12, api.Day{Day: 31}, api.OK}, {9999, 1, api.Day{Day: 1}, api.OK}, {9999, 12, api.Day{Day: 31}, api.OK}, {9999, 12, api.Day{Kind: 2, Day: 31}, api.OK}, {10000, 1, api.Day{Day: 1}, api.BadArg}, {10001, 1, api.Day{Day: 1}, api.BadArg}, {math.MaxInt, 1, api.Day{Day: 1}, api.BadArg}, {math.MinInt, 1, api.Day{Day: 1}, api.BadArg}, {1<<32 + 2000, 1, api.Day{Day: 1}, api.BadArg},
	} {
		l = append(l, change{fmt.Sprint("an until in ", x.year, " ", x.month, " ", x.on), func(z *den.Zone) {
			z.Eras[0].Until = api.Until{Has: true, Year: 1, Month: 1, On: api.Day{Day: 1}}
			z.Eras[1].Until = api.Until{Has: true, Year: x.year, Month: x.month, On: x.on}
		}, x.want})
	}
	return l
}

func changed(l ...change) den.Zone {
	z := zone(threeEras, eu)
	for _, x := range l {
		x.do(&z)
	}
	return z
}

func TestRight(t *testing.T) {
	for _, x := range changes() {
		z := changed(x)
		is(t, "Right with "+x.what, fmt.Sprint(int(den.Right(z))), fmt.Sprint(int(x.want)))
		s, k := den.At(z, 0)
		want := den.State{}
		if x.want == api.OK {
			want = s
		}
		is(t, "At with "+x.what, toldState(s, k), toldState(want, x.want))
	}
}

func TestTwoReasonsAtOnce(t *testing.T) {
	rank := map[api.Kind]int{api.BadArg: 3, api.Open: 2, api.Unsorted: 1}
	var kinds = map[api.Kind][]change{}
	for _, x := range changes() {
		kinds[x.want] = append(kinds[x.want], x)
	}
	// untils are not set anew by what comes second
	for _, first := range []api.Kind{api.Open, api.Unsorted} {
		for _, second := range []api.Kind{api.BadArg, api.Open} {
			if rank[second] <= rank[first] {
				continue
			}
			for _, a := range kinds[first] {
				for _, b := range kinds[second] {
					if first == api.Open && strings.Contains(b.what, "until") || first == api.Open && b.want == api.Open {
						continue
					}
					is(t, "Right with "+a.what+", "+b.what, fmt.Sprint(int(den.Right(changed(a, b)))), fmt.Sprint(int(second)))
				}
			}
		}
	}
	z := changed(change{do: func(z *den.Zone) { z.Eras[0].Until.Has, z.Eras[1].Until.Month, z.Rules[2][0].Save = false, 0, 86401 }})
	is(t, "Right with an era without an until, and an until that can't be", fmt.Sprint(int(den.Right(z))), "1")
	z = changed(change{do: func(z *den.Zone) { z.Eras[0].Until.Year, z.Eras[2].Until = 1999, z.Eras[1].Until }})
	is(t, "Right with an until of the last era, and falling Ends", fmt.Sprint(int(den.Right(z))), "21")
}

func TestEndsThatRise(t *testing.T) {
	for _, x := range []struct {
		eras, rules string
		want        int
	}{
		{"1:00 - A 2000 Jan 1 0:00;1:00 - A 2000 Jan 1 0:00:01;1:00 - A", "", 0}, {"1:00 - A 2000 Jan 1 0:00;1:00 - A 2000 Jan 1 0:00;1:00 - A", "", 14}, {"1:00 - A 2000 Jan 1 0:00:01;1:00 - A 2000 Jan 1 0:00;1:00 - A", "", 14},
		// what is ahead by its offset, by its kind of time, by its saving
		{"1:00 - A 2000 Jan 1 0:00;2:00 - A 2000 Jan 1 0:00;1:00 - A", "", 14}, {"2:00 - A 2000 Jan 1 0:00;1:00 - A 2000 Jan 1 0:00;1:00 - A", "", 0}, {"1:00 - A 2000 Jan 1 1:00;1:00 - A 2000 Jan 1 0:00u;1:00 - A", "", 14}, {"1:00 - A 2000 Jan 1 1:00;1:00 - A 2000 Jan 1 0:00:01u;1:00 - A", "", 0}, {"1:00 0:30 A 2000 Jan 1 1:30;1:00 - A 2000 Jan 1 0:00u;1:00 - A", "", 14}, {"1:00 0:30 A 2000 Jan 1 1:29:59;1:00 - A 2000 Jan 1 0:00u;1:00 - A", "", 0}, {"1:00 R A 2024 Jul 1 0:00;1:00 R A 2024 Jul 1 0:00s;1:00 - A", eu, 0}, {"1:00 R A 2024 Jul 1 1:00;1:00 R A 2024 Jul 1 0:00s;1:00 - A", eu, 14}, {"1:00 R A 2024 Jul 1 0:00s;1:00 R A 2024 Jul 1 0:00;1:00 - A", eu, 14},
		// the last of many, the first of many
		{"0 - A 1990;0 - A 1991;0 - A 1992;0 - A 1992;0 - A", "", 14}, {"0 - A 1990;0 - A 1990;0 - A 1991;0 - A 1992;0 - A", "", 14}, {"0 - A 1990;0 - A 1991;0 - A 1992;0 - A 1993;0 - A", "", 0}, {"0 - A 1991;0 - A 1992;0 - A 1990;0 - A 1993;0 - A", "", 14},
	} {
		is(t, "Right of "+x.eras, fmt.Sprint(int(den.Right(zone(x.eras, x.rules)))), fmt.Sprint(x.want))
	}
}

// P1503: Saving.

// asked: what rules do at an instant.
type asked struct {
	rules string
	off   int
	t     string
	want  string
}

func checkSavings(t *testing.T, l []asked) {
	t.Helper()
	for _, x := range l {
		is(t, fmt.Sprint("Saving at ", x.off, ", ", x.t, " of ", x.rules), toldSaving(den.Saving(rules(x.rules), x.off, at(x.t))), x.want)
	}
}

func TestSavingOfOrdinaryRules(t *testing.T) {
	checkSavings(t, []asked{
		{eu, 3600, "2024-07-03 09:46:40", `3600 "S"`}, {eu, 3600, "2024-03-31 00:59:59", `0 ""`}, {eu, 3600, "2024-03-31 01:00:00", `3600 "S"`}, {eu, 3600, "2024-03-31 01:00:01", `3600 "S"`}, {eu, 3600, "2024-10-27 00:59:59", `3600 "S"`}, {eu, 3600, "2024-10-27 01:00:00", `0 ""`}, {eu, 3600, "2025-01-01 00:00:00", `0 ""`}, {eu, 7200, "2024-03-31 01:00:00", `3600 "S"`}, {eu, 7200, "2024-03-31 00:59:59", `0 ""`},
		{us, -18000, "2024-03-10 06:59:59", `0 "S"`}, {us, -18000, "2024-03-10 07:00:00", `3600 "D"`}, {us, -18000, "2024-11-03 05:59:59", `3600 "D"`}, {us, -18000, "2024-11-03 06:00:00", `0 "S"`}, {us, -28800, "2024-03-10 09:59:59", `0 "S"`}, {us, -28800, "2024-03-10 10:00:00", `3600 "D"`}, {us, -28800, "2024-11-03 08:59:59", `3600 "D"`}, {us, -28800, "2024-11-03 09:00:00", `0 "S"`}, {us, -18000, "1974-01-06 06:59:59", `0 "S"`}, {us, -18000, "1974-01-06 07:00:00", `3600 "D"`}, {us, -18000, "1974-01-05 00:00:00", `0 "S"`},
		{south, 36000, "2024-04-06 15:59:59", `3600 "D"`}, {south, 36000, "2024-04-06 16:00:00", `0 "S"`}, {south, 36000, "2024-10-05 15:59:59", `0 "S"`}, {south, 36000, "2024-10-05 16:00:00", `3600 "D"`}, {south, 36000, "2025-01-01 00:00:00", `3600 "D"`}, {south, 36000, "2024-12-31 23:59:59", `3600 "D"`},
		// ahead of the first fire
		{us, -18000, "1967-04-30 06:59:59", `0 "S"`}, {us, -18000, "1967-04-30 07:00:00", `3600 "D"`}, {us, -18000, "1966-07-01 00:00:00", `0 "S"`}, {us, -18000, "0001-01-01 00:00:00", `0 "S"`}, {south, 36000, "2008-01-01 00:00:00", `0 "S"`}, {eu, 3600, "1981-03-29 00:59:59", `0 ""`}, {eu, 3600, "1981-03-29 01:00:00", `3600 "S"`}, {eu, 3600, "1982-01-01 00:00:00", `3600 "S"`},
		{"2000 max - Jun 1 0 1:00 A;2010 max - Jul 1 0 0 B;2005 max - Aug 1 0 0 C", 0, "1999-01-01 00:00:00", `0 "C"`},
		// far on
		{us, -18000, "9998-03-08 06:59:59", `0 "S"`}, {us, -18000, "9998-03-08 07:00:00", `3600 "D"`}, {us, -18000, "9998-12-31 23:59:59", `0 "S"`},
	})
}

func TestSavingOfNoRule(t *testing.T) {
	for _, l := range [][]api.Rule{nil, {}, rules(eu)[:0]} {
		for _, x := range []int64{math.MinInt64, reachBegin - 1, reachBegin, -1, 0, 1, at("2024-07-01 00:00:00"), reachEnd, reachEnd + 1, math.MaxInt64} {
			for _, off := range append([]int{0, 3600}, wild...) {
				is(t, fmt.Sprint("Saving at ", off, ", ", x), toldSaving(den.Saving(l, off, x)), `0 ""`)
			}
		}
	}
}

func TestSavingByKindsOfTime(t *testing.T) {
	const wall, standard, universal = "1990 max - Mar 1 0:00 2:00 A;1990 max - Sep 1 0:00 0 B", "1990 max - Mar 1 0:00s 2:00 A;1990 max - Sep 1 0:00s 0 B", "1990 max - Mar 1 0:00u 2:00 A;1990 max - Sep 1 0:00u 0 B"
	checkSavings(t, []asked{
		{wall, 3600, "2000-02-29 22:59:59", `0 "B"`}, {wall, 3600, "2000-02-29 23:00:00", `7200 "A"`}, {wall, 3600, "2000-08-31 20:59:59", `7200 "A"`}, {wall, 3600, "2000-08-31 21:00:00", `0 "B"`}, {wall, -3600, "2000-03-01 00:59:59", `0 "B"`}, {wall, -3600, "2000-03-01 01:00:00", `7200 "A"`}, {wall, -3600, "2000-08-31 22:59:59", `7200 "A"`}, {wall, -3600, "2000-08-31 23:00:00", `0 "B"`},
		{standard, 3600, "2000-02-29 22:59:59", `0 "B"`}, {standard, 3600, "2000-02-29 23:00:00", `7200 "A"`}, {standard, 3600, "2000-08-31 22:59:59", `7200 "A"`}, {standard, 3600, "2000-08-31 23:00:00", `0 "B"`}, {standard, -3600, "2000-09-01 00:59:59", `7200 "A"`}, {standard, -3600, "2000-09-01 01:00:00", `0 "B"`},
		{universal, 3600, "2000-02-29 23:59:59", `0 "B"`}, {universal, 3600, "2000-03-01 00:00:00", `7200 "A"`}, {universal, -3600, "2000-08-31 23:59:59", `7200 "A"`}, {universal, -3600, "2000-09-01 00:00:00", `0 "B"`},
		// savings below 0, as ahead of a fire
		{"1990 max - Mar 1 0:00 -1:00 A;1990 max - Sep 1 0:00 0 B", 3600, "2000-08-31 23:59:59", `-3600 "A"`}, {"1990 max - Mar 1 0:00 -1:00 A;1990 max - Sep 1 0:00 0 B", 3600, "2000-09-01 00:00:00", `0 "B"`},
		// the first fire of all has no saving ahead, the next year's has
		{"2000 max - Mar 1 0:00 2:00 A", 0, "2000-02-29 23:59:59", `0 ""`}, {"2000 max - Mar 1 0:00 2:00 A;2001 2001 - Feb 28 22:30 1:00 B", 0, "2001-02-28 20:29:59", `7200 "A"`}, {"2000 max - Mar 1 0:00 2:00 A;2001 2001 - Feb 28 22:30 1:00 B", 0, "2001-02-28 20:30:00", `3600 "B"`},
	})
	l := rules(wall)
	for _, kind := range append([]int{-1, 3}, wild...) {
		l[0].At.Kind, l[1].At.Kind = kind, kind
		is(t, fmt.Sprint("a kind of time that is none: ", kind), toldSaving(den.Saving(l, 3600, at("2000-02-29 23:59:59")))+toldSaving(den.Saving(l, 3600, at("2000-03-01 00:00:00"))), `0 "B"7200 "A"`)
	}
}

func TestSavingOfRulesFarFromT(t *testing.T) {
	checkSavings(t, []asked{
		// that begin later
		{"2000 max - Mar 1 0 1:00 A", 0, "1999-12-31 23:59:59", `0 ""`}, {"2000 max - Mar 1 0 1:00 A", 0, "2000-02-29 23:59:59", `0 ""`}, {"2000 max - Mar 1 0 0 A", 0, "1980-01-01 00:00:00", `0 "A"`}, {"1950 1960 - Mar 1 0 1:00 A;9999 max - Mar 1 0 0 B", 0, "9998-01-01 00:00:00", `3600 "A"`}, {"1 only - Mar 1 0 1:00 A;9999 max - Mar 1 0 0 B", 0, "9998-01-01 00:00:00", `3600 "A"`},
		// that ended long ago
		{"1918 only - Mar 1 0 1:00 A", 0, "2024-01-01 00:00:00", `3600 "A"`}, {"1918 only - Mar 1 0 1:00 A;1919 only - Oct 1 0 0 B", 0, "9998-12-31 23:59:59", `0 "B"`}, {"1918 only - Mar 1 0 1:00 A;1919 only - Oct 1 0 0 B", 0, "1919-09-30 00:00:00", `3600 "A"`}, {"1 only - Jan 1 0 1:00 A", 0, "9998-12-31 23:59:59", `3600 "A"`}, {"1918 1930 - Feb 29 0 1:00 A;1925 1927 - Mar 1 0 0:30 B", 0, "1930-01-01 00:00:00", `3600 "A"`}, {"1918 1927 - Feb 29 0 1:00 A;1925 1926 - Mar 1 0 0:30 B", 0, "1930-01-01 00:00:00", `1800 "B"`},
		// with a gap of 8 years
		{"1 max - Feb 29 0 1:00 A", 0, "1903-12-31 23:59:59", `3600 "A"`}, {"1897 max - Feb 29 0 1:00 A", 0, "1904-02-28 23:59:59", `0 ""`}, {"1897 max - Feb 29 0 1:00 A", 0, "1904-02-29 00:00:00", `3600 "A"`}, {"1896 max - Feb 29 0 1:00 A", 0, "1904-02-28 22:59:59", `3600 "A"`}, {"1896 1903 - Feb 29 0 1:00 A;1895 1895 - Mar 1 0 0 B", 0, "1904-02-28 22:59:59", `3600 "A"`}, {"1896 1903 - Feb 29 0 1:00 A;1896 1896 - Mar 1 0 0 B", 0, "1904-02-28 22:59:59", `0 "B"`}, {"1897 1903 - Feb 29 0 1:00 A;1895 1895 - Mar 1 0 0 B", 0, "1999-01-01 00:00:00", `0 "B"`},
		// none has Save 0
		{"1990 max - Mar 1 0 1:00 A;1990 max - Sep 1 0 2:00 B", 0, "1989-01-01 00:00:00", `0 ""`}, {"1990 max - Mar 1 0 1:00 A;1990 max - Sep 1 0 2:00 B", 0, "1990-08-31 22:59:59", `3600 "A"`}, {"1990 max - Mar 1 0 1:00 A;1990 max - Sep 1 0 2:00 B", 0, "1990-08-31 23:00:00", `7200 "B"`}, {"1990 max - Mar 1 0 1:00 A;1990 max - Sep 1 0 2:00 B", 0, "1991-02-28 21:59:59", `7200 "B"`}, {"1990 max - Mar 1 0 1:00 A;1990 max - Sep 1 0 2:00 B", 0, "1991-02-28 22:00:00", `3600 "A"`},
		// two at one instant: the last one by its place
		{"1990 max - Mar 1 0 1:00 A;1990 max - Mar 1 0 0 B", 0, "1990-03-01 00:00:00", `0 "B"`}, {"1990 max - Mar 1 0 0 B;1990 max - Mar 1 0 1:00 A", 0, "1990-03-01 00:00:00", `3600 "A"`}, {"1990 max - Mar 1 0u 1:00 A;1990 max - Mar 1 0u 0 B", 0, "1990-03-01 00:00:00", `0 "B"`}, {"1990 max - Mar 1 0u 0 B;1990 max - Mar 1 0u 1:00 A", 0, "1990-03-01 00:00:00", `3600 "A"`},
	})
}

func TestSavingBesideRulesThatNeverFire(t *testing.T) {
	l := append(rules("1918 only - Mar 1 0 1:00 A;1930 only - Mar 1 0 0 B"), api.Rule{From: 1, To: api.Endless, Save: 7, Letter: "N"})
	for _, never := range []api.Rule{{Month: 2, On: api.Day{Day: 30}}, {Month: 4, On: api.Day{Day: 31}}, {Month: 13, On: api.Day{Kind: 1}}, {Month: 0, On: api.Day{Day: 1}}, {Month: 3, On: api.Day{Kind: 4, Day: 1}}} {
		l[2].Month, l[2].On = never.Month, never.On
		for _, x := range []struct{ t, want string }{{"1917-01-01 00:00:00", `0 "B"`}, {"1918-02-28 23:59:59", `0 "B"`}, {"1918-03-01 00:00:00", `3600 "A"`}, {"1930-02-28 22:59:59", `3600 "A"`}, {"1930-02-28 23:00:00", `0 "B"`}, {"9998-12-31 23:59:59", `0 "B"`}} {
			is(t, fmt.Sprint("Saving at ", x.t, " of ", l), toldSaving(den.Saving(l, 0, at(x.t))), x.want)
		}
	}
	none := api.Rule{From: 2000, To: 1999, Month: 1, On: api.Day{Day: 1}, Save: 7}
	is(t, "Saving of a rule that ends ahead of its begin", toldSaving(den.Saving([]api.Rule{none}, 0, yearBegin(2024))), `0 ""`)
}

func TestSavingWhereInstantsDoNotRise(t *testing.T) {
	const (
		bySaving = "2000 only - Mar 10 0:00 24:00 A;2000 only - Mar 10 12:00 0 B"
		byKind   = "2000 only - Mar 10 1:00u 1:00 A;2000 only - Mar 10 2:00 0 B"
		byYears  = "2023 only - Dec 31 167:59:59 1:00 A;2024 only - Jan 1 0:00 2:00 B;2024 only - Mar 1 0:00u 0 C"
		ahead    = "2024 only - Dec 30 0:00 1:00 A;2025 only - Jan 1 -167:59:59 2:00 B;2025 only - Mar 1 0:00u 0 C"
		weeks    = "2023 only - Dec Sat>=31 0:00 1:00 A;2024 only - Jan 2 0:00u 2:00 B;2025 only - Jan Sat<=1 0:00u 0 C"
	)
	checkSavings(t, []asked{
		{bySaving, 0, "2000-03-09 11:59:59", `0 "B"`}, {bySaving, 0, "2000-03-09 12:00:00", `0 "B"`}, {bySaving, 0, "2000-03-10 00:00:00", `0 "B"`}, {bySaving, 0, "2000-03-10 12:00:00", `0 "B"`}, {strings.Replace(bySaving, "12:00 0 B", "12:00 1:00 B", 1), 0, "2000-03-09 11:59:59", `0 ""`}, {strings.Replace(bySaving, "12:00 0 B", "12:00 1:00 B", 1), 0, "2000-03-09 12:00:00", `3600 "B"`}, {strings.Replace(bySaving, "12:00 0 B", "12:00 1:00 B", 1), 0, "2000-03-10 00:00:00", `3600 "B"`},
		{byKind, 18000, "2000-03-09 19:59:59", `0 "B"`}, {strings.Replace(byKind, "2:00 0 B", "2:00 0:30 B", 1), 18000, "2000-03-09 19:59:59", `0 ""`}, {strings.Replace(byKind, "2:00 0 B", "2:00 0:30 B", 1), 18000, "2000-03-09 20:00:00", `1800 "B"`}, {strings.Replace(byKind, "2:00 0 B", "2:00 0:30 B", 1), 18000, "2000-03-10 01:00:00", `1800 "B"`}, {strings.Replace(byKind, "2:00 0 B", "2:00 0:30 B", 1), 0, "2000-03-10 01:00:00", `1800 "B"`}, {strings.Replace(byKind, "2:00 0 B", "2:00 0:30 B", 1), 0, "2000-03-10 00:59:59", `0 ""`}, {strings.Replace(byKind, "2:00 0 B", "2:00 0:30 B", 1), -3600, "2000-03-10 01:00:00", `3600 "A"`}, {strings.Replace(byKind, "2:00 0 B", "2:00 0:30 B", 1), -3600, "2000-03-10 02:00:00", `1800 "B"`},
		// a fire of a year whose instant lies in the next one
		{byYears, 0, "2023-12-31 22:59:59", `0 "C"`}, {byYears, 0, "2023-12-31 23:00:00", `7200 "B"`}, {byYears, 0, "2024-01-06 23:59:59", `7200 "B"`}, {byYears, 0, "2024-03-01 00:00:00", `0 "C"`}, {"2023 only - Dec 31 167:59:59 1:00 A", 0, "2024-01-06 23:59:58", `0 ""`}, {"2023 only - Dec 31 167:59:59 1:00 A", 0, "2024-01-06 23:59:59", `3600 "A"`}, {weeks, 0, "2024-01-01 23:59:59", `0 "C"`}, {weeks, 0, "2024-01-02 00:00:00", `7200 "B"`}, {weeks, 0, "2024-01-06 00:00:00", `7200 "B"`},
		// and of the next year, in this one
		{ahead, 0, "2024-12-24 22:59:59", `0 "C"`}, {ahead, 0, "2024-12-24 23:00:00", `0 "C"`}, {ahead, 0, "2024-12-24 23:00:01", `7200 "B"`}, {ahead, 0, "2024-12-30 00:00:00", `7200 "B"`}, {ahead, 0, "2025-02-28 23:59:59", `7200 "B"`}, {ahead, 0, "2025-03-01 00:00:00", `0 "C"`}, {weeks, 0, "2024-12-27 23:59:59", `7200 "B"`}, {weeks, 0, "2024-12-28 00:00:00", `0 "C"`}, {"2025 max - Jan Wed<=1 0 1:00 A", 0, "2025-01-01 00:00:00", `3600 "A"`}, {"2025 max - Jan Thu<=1 0 1:00 A", 0, "2024-12-25 23:59:59", `0 ""`}, {"2025 max - Jan Thu<=1 0 1:00 A", 0, "2024-12-26 00:00:00", `3600 "A"`}, {"2025 max - Jan Thu<=1 -167:59:59 1:00 A", 86400, "2024-12-18 00:00:00", `0 ""`}, {"2025 max - Jan Thu<=1 -167:59:59 1:00 A", 86400, "2024-12-18 00:00:01", `3600 "A"`},
		{"2000 2024 - Mar 1 0 24:00 A;2025 max - Jan Thu<=1 -167:59:59 0 B", 86400, "2024-12-17 00:00:00", `86400 "A"`}, {"2000 2024 - Mar 1 0 24:00 A;2025 max - Jan Thu<=1 -167:59:59 0 B", 86400, "2024-12-17 00:00:01", `0 "B"`},
	})
}

// Times, savings and offsets of more days than a right zone has.
func TestSavingOfTimesFarOut(t *testing.T) {
	one := func(y, sec, save int, letter string) api.Rule {
		return api.Rule{From: y, To: y, Month: 1, On: api.Day{Day: 1}, At: api.At{Sec: sec}, Save: save, Letter: letter}
	}
	for _, x := range []struct {
		l    []api.Rule
		off  int
		t    string
		want string
	}{
		{[]api.Rule{one(2000, 86400*3650, 60, "A")}, 0, "2009-12-28 23:59:59", `0 ""`}, {[]api.Rule{one(2000, 86400*3650, 60, "A")}, 0, "2009-12-29 00:00:00", `60 "A"`}, {[]api.Rule{one(2000, -86400*3652, 60, "A")}, 0, "1989-12-31 23:59:59", `0 ""`}, {[]api.Rule{one(2000, -86400*3652, 60, "A")}, 0, "1990-01-01 00:00:00", `60 "A"`},
		{[]api.Rule{one(2000, 0, 60, "A"), one(2010, -86400*7305, 0, "B")}, 0, "1989-12-31 23:58:59", `0 "B"`}, {[]api.Rule{one(2000, 0, 60, "A"), one(2010, -86400*7305, 120, "B")}, 0, "1989-12-31 23:58:59", `0 ""`}, {[]api.Rule{one(2000, 0, 60, "A"), one(2010, -86400*7305, 120, "B")}, 0, "1989-12-31 23:59:00", `120 "B"`}, {[]api.Rule{one(2000, 0, 60, "A"), one(2010, -86400*7305, 120, "B")}, 0, "2024-01-01 00:00:00", `120 "B"`},
		{[]api.Rule{one(2000, 0, 86400*366, "A"), one(2001, 0, 0, "B")}, 0, "1999-12-31 00:00:00", `0 "B"`}, {[]api.Rule{one(2000, 0, 86400*366, "A"), one(2001, 0, 60, "B")}, 0, "1999-12-31 23:59:59", `0 ""`}, {[]api.Rule{one(2000, 0, 86400*366, "A"), one(2001, 0, 60, "B")}, 0, "2000-01-01 00:00:00", `60 "B"`},
		{[]api.Rule{one(2000, 0, 60, "A")}, 86400 * 366, "1998-12-30 23:59:59", `0 ""`}, {[]api.Rule{one(2000, 0, 60, "A")}, 86400 * 366, "1998-12-31 00:00:00", `60 "A"`}, {[]api.Rule{one(2000, 0, 60, "A")}, -86400 * 366, "2000-12-31 23:59:59", `0 ""`}, {[]api.Rule{one(2000, 0, 60, "A")}, -86400 * 366, "2001-01-01 00:00:00", `60 "A"`},
		{[]api.Rule{one(9999, -1<<39, 60, "A")}, 0, "0001-01-01 00:00:00", `60 "A"`}, {[]api.Rule{one(9999, -1<<50, 60, "A")}, 0, "0001-01-01 00:00:00", `60 "A"`}, {[]api.Rule{one(1, 1<<39, 60, "A")}, 0, "9998-01-01 00:00:00", `0 ""`}, {[]api.Rule{one(1, 1<<50, 60, "A"), one(1900, 0, 0, "B")}, 0, "9998-01-01 00:00:00", `0 "B"`}, {[]api.Rule{one(9999, 0, 60, "A")}, 1 << 50, "0001-01-01 00:00:00", `60 "A"`}, {[]api.Rule{one(1, 0, 60, "A")}, -1 << 50, "9998-01-01 00:00:00", `0 ""`}, {[]api.Rule{one(1, 0, 1<<50, "A"), one(9999, 0, 60, "B")}, 0, "0001-01-01 00:00:00", `60 "B"`},
	} {
		is(t, fmt.Sprint("Saving at ", x.off, ", ", x.t, " of ", x.l), toldSaving(den.Saving(x.l, x.off, at(x.t))), x.want)
	}
}

func TestSavingAtTheEndsOfReach(t *testing.T) {
	always := "1 max - Jan 1 0u 1:00 A;1 max - Jul 1 0u 0 B;9998 max - Dec 31 23:59:59u 2:00 C;9999 max - Jan 1 -0:00:02u 0:30 D"
	late := "9999 max - Dec 31 0u 1:00 A"
	for _, x := range []struct {
		l    string
		t    int64
		want string
	}{
		{always, reachEnd + 1, `0 "B"`}, {always, reachEnd, `1800 "D"`}, {always, reachEnd - 1, `1800 "D"`}, {always, reachEnd - 2, `0 "B"`}, {always, math.MaxInt64, `0 "B"`}, {always, math.MinInt64, `0 "B"`}, {always, reachBegin, `0 "B"`}, {always, reachBegin - 1, `0 "B"`}, {always, at("0001-01-01 00:00:00"), `3600 "A"`}, {always, at("0001-01-01 00:00:00") - 1, `0 "B"`}, {always, at("0001-07-01 00:00:00"), `0 "B"`},
		{late, reachEnd, `0 ""`}, {late, reachEnd + 86400*365, `0 ""`}, {late, math.MaxInt64, `0 ""`}, {late, yearBegin(20000), `0 ""`},
		{"1 only - Jan Tue<=1 -167:59:59 1:00 A", yearBegin(0) + 86400*354, `3600 "A"`}, {"1 only - Jan Tue<=1 -167:59:59 1:00 A", yearBegin(0) + 86400*353, `0 ""`}, {"1 only - Jan Tue<=1 -167:59:59 1:00 A", reachEnd, `3600 "A"`}, {"1 only - Jan Tue<=1 -167:59:59 1:00 A", reachEnd + 1, `0 ""`},
	} {
		is(t, fmt.Sprint("Saving at 0, ", x.t, " of ", x.l), toldSaving(den.Saving(rules(x.l), 0, x.t)), x.want)
	}
	early := []api.Rule{{From: 1, To: 1, Month: 1, On: api.Day{Day: 1}, At: api.At{Sec: int(reachBegin - yearBegin(1)), Kind: 2}, Save: 7, Letter: "E"}}
	is(t, "a fire at the begin of reach", toldSaving(den.Saving(early, 0, reachBegin))+toldSaving(den.Saving(early, 0, reachBegin-1)), `7 "E"0 ""`)
}

func TestSavingOfAnyNumbers(t *testing.T) {
	numbers := append([]int{0, 1, -1, 3600, 1 << 38, -1 << 38}, wild...)
	for i, n := range numbers {
		for _, off := range numbers[i%4*6:][:7] {
			l := rules(eu)
			l[1].At.Sec, l[1].Save, l[0].At.Kind = n, off, 0
			fires := expand.From(l, 1, 9999)
			for _, x := range []int64{reachBegin, 0, reachEnd} {
				same(t, fmt.Sprint("Saving at ", off, ", ", x, " with ", n), toldSaving(den.Saving(l, off, x)), toldSaving(saved(l, fires, off, x)))
			}
		}
	}
	for _, n := range wild {
		l := rules(eu)
		l[0].From, l[0].To, l[1].Month, l[1].On.Week, l[0].Save = n, n, n, n, n
		is(t, fmt.Sprint("Saving with rules of ", n), toldSaving(den.Saving(l, n, 0)), toldSaving(saved(l, expand.From(l, 1, 9999), n, 0)))
		for _, x := range []int64{math.MinInt64, math.MaxInt64} {
			is(t, fmt.Sprint("Saving of rules at ", n, ", ", x), toldSaving(den.Saving(rules(us), n, x)), `0 "S"`)
		}
	}
}

// P1504: End, At.

func TestEnd(t *testing.T) {
	for _, x := range []struct{ eras, rules, want string }{
		{"1:00 - A 2000;0 - A", "", "1999-12-31 23:00:00"}, {"-5:00 - A 2000;0 - A", "", "2000-01-01 05:00:00"}, {"1:00 - A 2000 Mar lastSun 2:00;0 - A", "", "2000-03-26 01:00:00"}, {"1:00 - A 2000 Mar Sun>=8 2:00;0 - A", "", "2000-03-12 01:00:00"}, {"1:00 - A 2000 Jan Sun<=1;0 - A", "", "1999-12-25 23:00:00"}, {"1:00 - A 1999 Dec Sun>=31;0 - A", "", "2000-01-01 23:00:00"},
		{"1:00 - A 2000 Jan 1 0:00s;0 - A", "", "1999-12-31 23:00:00"}, {"1:00 - A 2000 Jan 1 0:00u;0 - A", "", "2000-01-01 00:00:00"}, {"1:00 - A 2000 Jan 1 -2:30;0 - A", "", "1999-12-31 20:30:00"}, {"1:00 - A 2000 Jan 1 167:59:59;0 - A", "", "2000-01-07 22:59:59"},
		{"1:00 1:30 A 2000;0 - A", "", "1999-12-31 21:30:00"}, {"1:00 1:30 A 2000 Jan 1 0:00s;0 - A", "", "1999-12-31 23:00:00"}, {"1:00 1:30 A 2000 Jan 1 0:00u;0 - A", "", "2000-01-01 00:00:00"}, {"1:00 -1:30 A 2000;0 - A", "", "2000-01-01 00:30:00"}, {"-1:00 -1:30 A 2000;0 - A", "", "2000-01-01 02:30:00"},
		{"1:00 R A 2024 Jul 1;0 - A", eu, "2024-06-30 22:00:00"}, {"1:00 R A 2024 Jan 1;0 - A", eu, "2023-12-31 23:00:00"}, {"1:00 R A 2024 Jul 1 0:00s;0 - A", eu, "2024-06-30 23:00:00"}, {"1:00 R A 2024 Jul 1 0:00u;0 - A", eu, "2024-07-01 00:00:00"}, {"1:00 R A 1960 Jul 1;0 - A", eu, "1960-06-30 23:00:00"}, {"-5:00 R A 2024 Jul 1;0 - A", us, "2024-07-01 04:00:00"}, {"1:00 R A 2024 Jul 1;0 - A", "2000 max - Mar 1 0 -1:00 -", "2024-07-01 00:00:00"}, {"1:00 R A 2024 Jul 1;0 - A", "", "2024-06-30 23:00:00"},
		// on a fire, ahead of it and behind
		{"1:00 R A 2024 Mar 31 1:59:59;0 - A", eu, "2024-03-31 00:59:59"}, {"1:00 R A 2024 Mar 31 2:00;0 - A", eu, "2024-03-31 01:00:00"}, {"1:00 R A 2024 Mar 31 2:00:01;0 - A", eu, "2024-03-31 00:00:01"}, {"1:00 R A 2024 Mar 31 3:00;0 - A", eu, "2024-03-31 01:00:00"}, {"1:00 R A 2024 Mar 31 3:00:01;0 - A", eu, "2024-03-31 01:00:01"},
		{"1:00 R A 2024 Oct 27 1:59:59;0 - A", eu, "2024-10-26 23:59:59"}, {"1:00 R A 2024 Oct 27 2:00;0 - A", eu, "2024-10-27 00:00:00"}, {"1:00 R A 2024 Oct 27 2:00:01;0 - A", eu, "2024-10-27 01:00:01"}, {"1:00 R A 2024 Oct 27 3:00;0 - A", eu, "2024-10-27 02:00:00"}, {"1:00 R A 2024 Oct 27 2:00s;0 - A", eu, "2024-10-27 01:00:00"}, {"1:00 R A 2024 Oct 27 2:00:01s;0 - A", eu, "2024-10-27 01:00:01"}, {"1:00 R A 2024 Oct 27 1:00u;0 - A", eu, "2024-10-27 01:00:00"}, {"1:00 R A 2024 Oct 27 1:00:01u;0 - A", eu, "2024-10-27 01:00:01"},
		{"-5:00 R A 2024 Mar 10 2:00;0 - A", us, "2024-03-10 07:00:00"}, {"-5:00 R A 2024 Mar 10 2:00:01;0 - A", us, "2024-03-10 06:00:01"}, {"-5:00 R A 2024 Nov 3 2:00;0 - A", us, "2024-11-03 07:00:00"}, {"-5:00 R A 2024 Nov 3 1:00;0 - A", us, "2024-11-03 05:00:00"}, {"-5:00 R A 2024 Nov 3 1:00:01;0 - A", us, "2024-11-03 06:00:01"},
		// at the bounds of years
		{"1:00 - A 1;0 - A", "", "0000-12-31 23:00:00"}, {"-1:00 - A 1 Jan 1 0:00;0 - A", "", "0001-01-01 01:00:00"}, {"0 - A 9999 Dec 31 24:00;0 - A", "", "10000-01-01 00:00:00"}, {"1:00 - A 9999 Dec Sat>=31;0 - A", "", "9999-12-31 23:00:00"}, {"1:00 R A 9998 Jul 1;0 - A", eu, "9998-06-30 22:00:00"}, {"1:00 R A 9999 Jul 1;0 - A", eu, "9999-06-30 23:00:00"}, {"0:00 R A 9999 Jan 1;0 - A", "9998 max - Jun 1 0 1:00 -", "9998-12-31 23:00:00"}, {"0:00 R A 9999 Jan 1 0:00:01;0 - A", "9998 max - Jun 1 0 1:00 -", "9999-01-01 00:00:01"},
	} {
		z := zone(x.eras, x.rules)
		is(t, "End of "+x.eras, shown(den.End(z, 0)), x.want)
		is(t, "End of the last era of "+x.eras, fmt.Sprint(den.End(z, 1)), "0")
	}
}

func TestEndOfNoEra(t *testing.T) {
	z := zone(threeEras, eu)
	for _, i := range append([]int{-1, -2, -3, 2, 3, 4}, wild...) {
		is(t, fmt.Sprint("End of era ", i), fmt.Sprint(den.End(z, i)), "0")
		is(t, fmt.Sprint("End of era ", i, " of no zone"), fmt.Sprint(den.End(den.Zone{}, i)), "0")
	}
	for _, i := range []int{0, 1} {
		is(t, "an End that is there", fmt.Sprint(den.End(z, i) != 0), "true")
		is(t, "an End that only spare room has", fmt.Sprint(den.End(den.Zone{Eras: z.Eras[:i], Rules: z.Rules[:i]}, i)), "0")
	}
}

func TestEndOfTheLastEraWithAnUntil(t *testing.T) {
	for _, eras := range []string{"1:00 - A 2000;1:00 - A", "1:00 - A 1980;1:00 - A 1990;1:00 - A", "1:00 - A"} {
		z := zone(eras, "")
		last := len(z.Eras) - 1
		z.Eras[last].Until = zone("1:00 - A 2000;0 - A", "").Eras[0].Until
		is(t, "End of the last era of "+eras, shown(den.End(z, last)), "1999-12-31 23:00:00")
	}
}

func TestEndOfUntilsThatCanNotBe(t *testing.T) {
	for _, x := range untils() {
		z := changed(x)
		is(t, "is there an End, with "+x.what, fmt.Sprint(den.End(z, 1) != 0), fmt.Sprint(x.want == api.OK))
		z.Eras[1].Until.Has = false
		is(t, "End without an until, with "+x.what, fmt.Sprint(den.End(z, 1)), "0")
	}
}

func TestEndOfZonesThatAreNotRight(t *testing.T) {
	until := api.Until{Has: true, Year: 1970, Month: 1, On: api.Day{Day: 2}, At: api.At{Sec: 10}}
	end := func(e api.Era, rules ...[]api.Rule) string {
		e.Until = until
		return fmt.Sprint(den.End(den.Zone{Eras: []api.Era{e, e, e, e, e, e, e, e, e, e}, Rules: rules}, 0))
	}
	l := []api.Rule{{From: 1960, To: 1960, Month: 1, On: api.Day{Day: 1}, Save: 100000}}
	is(t, "the saving of rules", end(api.Era{Off: 1000, Kind: 2}, l), "-14590")
	is(t, "without rules", end(api.Era{Off: 1000, Kind: 2}), "85410")
	is(t, "with another era's rules", end(api.Era{Off: 1000, Kind: 2}, nil, l), "85410")
	is(t, "rules that are not asked for", end(api.Era{Off: 1000, Kind: 0}, l), "85410")
	is(t, "an Off beyond its bounds", end(api.Era{Off: -10000000}), "10086410")
	is(t, "a Save beyond its bounds", end(api.Era{Kind: 1, Save: 10000000}), "-9913590")
	is(t, "a Save that is not asked for", end(api.Era{Kind: 0, Save: 10}), "86410")
	is(t, "a Save beside rules", end(api.Era{Kind: 2, Save: 10}), "86410")
	for _, kind := range append([]int{-1, 3}, wild...) {
		is(t, fmt.Sprint("of the kind ", kind), end(api.Era{Off: 1000, Kind: kind, Save: -100}, l), "85410")
		until.At.Kind = kind
		is(t, fmt.Sprint("of the kind of time ", kind), end(api.Era{Off: 1000, Kind: 1, Save: -100}, l), "86410")
		until.At.Kind = 0
	}
	until.At.Sec = 1 << 40
	is(t, "a time beyond its bounds", end(api.Era{Off: 1000, Kind: 2}, l), fmt.Sprint(86400+1<<40-1000+0))
	until.At.Sec = -1 << 35
	is(t, "a time ahead of the first fire", end(api.Era{Off: 1000, Kind: 2}, l), fmt.Sprint(86400-1<<35-1000))
	for _, n := range wild {
		for _, kind := range []int{0, 1, 2} {
			until.At = api.At{Sec: n, Kind: kind}
			end(api.Era{Off: n, Kind: 2, Save: n}, l)
			end(api.Era{Off: -n, Kind: 1, Save: n}, l)
		}
	}
}

func TestAt(t *testing.T) {
	const (
		ordinary = "0:10 - LMT 1911 Mar 11;1:00 1:00 B 1950 Mar lastSun 2:00s;1:00 R CE%sT 2030;2:00 0:30 X"
		short    = "1:00 - A 2024 Mar 31 1:59:59;1:00 R B 2024 Mar 31 2:00;1:00 - A"
		mixed    = "1:00 R A 2024 Jul 1;0:00 R A 2024 Oct 27 0:30;1:00 R A"
	)
	for _, x := range []struct{ eras, rules, t, want string }{
		{"1:00 - A", "", "2024-07-01 00:00:00", `0 0 ""`}, {"1:00 - A", "", "0001-01-01 00:00:00", `0 0 ""`}, {"1:00 0:30 A", "", "2024-07-01 00:00:00", `0 1800 ""`}, {"1:00 -0:30 A", "", "2024-07-01 00:00:00", `0 -1800 ""`}, {"1:00 R A", eu, "2024-07-01 00:00:00", `0 3600 "S"`}, {"1:00 R A", us, "1960-07-01 00:00:00", `0 0 "S"`}, {"1:00 R A", "", "2024-07-01 00:00:00", `0 0 ""`},
		{ordinary, eu, "0001-01-01 00:00:00", `0 0 ""`}, {ordinary, eu, "1911-03-10 23:49:59", `0 0 ""`}, {ordinary, eu, "1911-03-10 23:50:00", `1 3600 ""`}, {ordinary, eu, "1911-03-10 23:50:01", `1 3600 ""`}, {ordinary, eu, "1950-03-26 00:59:59", `1 3600 ""`}, {ordinary, eu, "1950-03-26 01:00:00", `2 0 ""`}, {ordinary, eu, "1981-03-29 00:59:59", `2 0 ""`}, {ordinary, eu, "1981-03-29 01:00:00", `2 3600 "S"`}, {ordinary, eu, "2029-10-28 00:59:59", `2 3600 "S"`}, {ordinary, eu, "2029-10-28 01:00:00", `2 0 ""`}, {ordinary, eu, "2029-12-31 22:59:59", `2 0 ""`}, {ordinary, eu, "2029-12-31 23:00:00", `3 1800 ""`}, {ordinary, eu, "9998-12-31 23:59:59", `3 1800 ""`},
		{short, eu, "2024-03-31 00:59:58", `0 0 ""`}, {short, eu, "2024-03-31 00:59:59", `1 0 ""`}, {short, eu, "2024-03-31 01:00:00", `2 0 ""`},
		{mixed, eu, "2024-06-30 21:59:59", `0 3600 "S"`}, {mixed, eu, "2024-06-30 22:00:00", `1 3600 "S"`}, {mixed, eu, "2024-10-26 23:29:59", `1 3600 "S"`}, {mixed, eu, "2024-10-26 23:30:00", `2 3600 "S"`}, {mixed, eu, "2024-10-27 01:00:00", `2 0 ""`},
		// each era at its own offset
		{"-5:00 R A 2010;-8:00 R A", us, "2009-03-08 06:59:59", `0 0 "S"`}, {"-5:00 R A 2010;-8:00 R A", us, "2009-03-08 07:00:00", `0 3600 "D"`}, {"-5:00 R A 2010;-8:00 R A", us, "2011-03-13 09:59:59", `1 0 "S"`}, {"-5:00 R A 2010;-8:00 R A", us, "2011-03-13 10:00:00", `1 3600 "D"`},
		// an until far out
		{"1:00 - A 1 Jan 1 0:00;2:00 1:00 B", "", "0001-01-01 00:00:00", `1 3600 ""`}, {"-1:00 - A 1 Jan 1 0:00;2:00 1:00 B", "", "0001-01-01 00:59:59", `0 0 ""`}, {"-1:00 - A 1 Jan 1 0:00;2:00 1:00 B", "", "0001-01-01 01:00:00", `1 3600 ""`}, {"0 - A 9999;2:00 1:00 B", "", "9998-12-31 23:59:59", `0 0 ""`}, {"1:00 - A 9999;2:00 1:00 B", "", "9998-12-31 23:00:00", `1 3600 ""`},
		{"0 - A 1990;0 1:00 B 1991;0 2:00 C 1992;0 3:00 D 1993;0 4:00 E 1994;0 5:00 F 1995;0 6:00 G 1996;0 7:00 H", "", "1992-12-31 20:59:59", `3 10800 ""`}, {"0 - A 1990;0 1:00 B 1991;0 2:00 C 1992;0 3:00 D 1993;0 4:00 E 1994;0 5:00 F 1995;0 6:00 G 1996;0 7:00 H", "", "1992-12-31 21:00:00", `4 14400 ""`}, {"0 - A 1990;0 1:00 B 1991;0 2:00 C 1992;0 3:00 D 1993;0 4:00 E 1994;0 5:00 F 1995;0 6:00 G 1996;0 7:00 H", "", "2024-01-01 00:00:00", `7 25200 ""`},
	} {
		is(t, fmt.Sprint("At ", x.t, " of ", x.eras), toldState(den.At(zone(x.eras, x.rules), at(x.t))), x.want)
	}
}

func TestAtTheEndsOfReach(t *testing.T) {
	z := zone("0 - A 1970;1:00 1:00 B", "")
	for _, x := range []struct {
		t    int64
		want string
	}{
		{reachBegin, `0 0 ""`}, {reachBegin + 1, `0 0 ""`}, {reachBegin - 1, "kind 2, {0 0 }"}, {reachBegin - 86400, "kind 2, {0 0 }"}, {yearBegin(-9999), "kind 2, {0 0 }"}, {yearBegin(-9999) - 1, "kind 2, {0 0 }"}, {math.MinInt64, "kind 2, {0 0 }"}, {math.MinInt64 + 1, "kind 2, {0 0 }"},
		{-1, `0 0 ""`}, {0, `1 3600 ""`}, {reachEnd, `1 3600 ""`}, {reachEnd - 1, `1 3600 ""`}, {reachEnd + 1, "kind 2, {0 0 }"}, {yearBegin(10000) - 1, "kind 2, {0 0 }"}, {yearBegin(10000), "kind 2, {0 0 }"}, {math.MaxInt64, "kind 2, {0 0 }"}, {math.MaxInt64 - 1, "kind 2, {0 0 }"},
	} {
		is(t, fmt.Sprint("At ", x.t), toldState(den.At(z, x.t)), x.want)
		is(t, fmt.Sprint("At ", x.t, " of no zone"), toldState(den.At(den.Zone{}, x.t)), "kind 1, {0 0 }")
	}
	is(t, "the ends of reach", fmt.Sprint(reachBegin, " ", reachEnd), "-377673580800 253370764799")
}

func TestTheExampleOfTheChapter(t *testing.T) {
	z := zone("1:00 - A", "")
	is(t, "Right", fmt.Sprint(den.Right(z)), fmt.Sprint(api.OK))
	for y := -9998; y <= 9998; y += 7 {
		same(t, fmt.Sprint("At the begin of ", y), toldState(den.At(z, yearBegin(y))), `0 0 ""`)
	}
}
