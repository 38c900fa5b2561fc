package footer_test

import (
	"fmt"
	"math/rand"
	"slices"
	"testing"
	"time"

	"noonmark/api"
	"noonmark/den"
	"noonmark/expand"
	"noonmark/footer"
	"noonmark/format"
)

// The model of Steady and Of: all that may be wrong is gathered first, and told in the order of the words.

func modelSteady(z den.Zone) int {
	n := len(z.Eras)
	years := []int{0}
	if z.Eras[n-1].Kind == 2 {
		for _, r := range z.Rules[n-1] {
			if r.To != api.Endless {
				years = append(years, r.To)
			}
			if r.To == api.Endless {
				years = append(years, r.From)
			}
		}
		if len(z.Rules[n-1]) > 0 {
			years = append(years, z.Rules[n-1][0].From)
		}
	}
	if n > 1 {
		y := time.Unix(den.End(z, n-2), 0).UTC().Year()
		if y < -9998 || y > 9998 {
			y = 9999
		}
		years = append(years, y)
	}
	y := slices.Max(years)
	switch {
	case y >= 9998:
		return 9998
	case y < 0:
		return 1
	}
	return y + 1
}

// modelFire: a rule's edge, with the saving ahead.
func modelFire(r api.Rule, off, ahead int) (footer.Edge, bool) {
	e, days, ok := modelEdgeOf(r.On, r.Month)
	e.Sec = r.At.Sec + days*86400
	if r.At.Kind != 0 {
		e.Sec += ahead
	}
	if r.At.Kind == 2 {
		e.Sec += off
	}
	return e, ok && !beyond(e.Sec, 604799)
}

func modelOf(z den.Zone) (footer.Spec, api.Kind) {
	if k := den.Right(z); k != api.OK {
		return footer.Spec{}, k
	}
	n := len(z.Eras) - 1
	e, strays := z.Eras[n], 0
	var still, saves []api.Rule
	for _, r := range z.Rules[n] {
		if e.Kind != 2 || r.To != api.Endless {
			continue
		}
		if r.Save == 0 {
			still = append(still, r)
		} else {
			saves = append(saves, r)
		}
		if r.Month == 2 && r.On.Day > 28 || r.On.Day > 30 && (r.Month == 4 || r.Month == 6 || r.Month == 9 || r.Month == 11) {
			strays++
		}
	}
	switch {
	case strays > 0:
		return footer.Spec{}, api.NoFooter
	case len(still) <= 1 && len(saves) == 0:
		l, k := format.At(z, time.Date(modelSteady(z)+1, 6, 1, 0, 0, 0, 0, time.UTC).Unix())
		switch {
		case k != api.OK:
			return footer.Spec{}, k
		case l.Dst:
			return footer.Spec{}, api.NoFooter
		}
		return footer.Spec{Std: l.Abbr, Off: l.Off}, api.OK
	case len(still) != 1 || len(saves) != 1:
		return footer.Spec{}, api.NoFooter
	}
	a, b := still[0], saves[0]
	start, ok := modelFire(b, e.Off, 0)
	end, too := modelFire(a, e.Off, b.Save)
	gap := a.Month - b.Month
	if !ok || !too || gap*gap < 4 || gap*gap > 100 || beyond(e.Off+b.Save, 86400) {
		return footer.Spec{}, api.NoFooter
	}
	std, k := format.Abbr(e.Format, a.Letter, e.Off, false)
	dst, kind := format.Abbr(e.Format, b.Letter, e.Off+b.Save, true)
	if k != api.OK || kind != api.OK {
		return footer.Spec{}, api.BadFormat
	}
	return footer.Spec{Std: std, Off: e.Off, Dst: dst, DOff: e.Off + b.Save, Start: start, End: end}, api.OK
}

// Zones by chance.

func anyDay(r *rand.Rand) api.Day {
	day, week := anyOf(r, 1, 2, 6, 7, 8, 9, 14, 22, 27, 28, 29, 30, 31, 1+r.Intn(28)), r.Intn(7)
	switch r.Intn(4) {
	case 0:
		return api.Day{Day: day}
	case 1:
		return api.Day{Kind: 1, Week: week}
	}
	return api.Day{Kind: 2 + r.Intn(2), Day: day, Week: week}
}

func anyTime(r *rand.Rand) api.At {
	return api.At{Sec: anyOf(r, 0, 3600, 7200, 7200, 10800, 86400, -3600, 90000, 604799, -604799, r.Intn(86400)), Kind: r.Intn(3)}
}

var (
	someShifts = []int{3600, 3600, 3600, 7200, 1800, -3600, 60, 86400, -86400}
	someOffs   = []int{0, 3600, 7200, -18000, 19800, -12600, 86400, -86400, 45900}
)

func anyRule(r *rand.Rand, about int) api.Rule {
	from := about + r.Intn(20) - 10
	return api.Rule{From: from, To: anyOf(r, from, from+r.Intn(20), from-1), Month: 1 + r.Intn(12), On: anyDay(r), At: anyTime(r), Save: anyOf(r, 0, anyOf(r, someShifts...)), Letter: anyOf(r, "", "S", "D", "XY")}
}

// anyRules: most often two of them have no end.
func anyRules(r *rand.Rand, about int) []api.Rule {
	var l []api.Rule
	for range r.Intn(4) {
		l = append(l, anyRule(r, about))
	}
	for i := range anyOf(r, 0, 1, 1, 2, 2, 2, 2, 2, 2, 2, 3) {
		x := anyRule(r, about)
		x.To = api.Endless
		if r.Intn(8) > 0 {
			x.Save = []int{0, anyOf(r, someShifts...), 0}[i]
		}
		l = append(l, x)
	}
	r.Shuffle(len(l), func(i, j int) { l[i], l[j] = l[j], l[i] })
	return l
}

// anyZone: of years about that one, most often a right zone.
func anyZone(r *rand.Rand, about int) den.Zone {
	var z den.Zone
	n, year := 1+r.Intn(3), about-8
	for i := range n {
		e := api.Era{Off: anyOf(r, someOffs...), Kind: anyOf(r, 0, 1, 2, 2, 2, 2, 2, 2), Save: anyOf(r, 0, 3600), Format: anyOf(r, "CE%sT", "CE%sT", "%z", "GMT/BST", "AAA/BBB", "UTC", "ABC%s", "A%sB", "ABC/D")}
		if i < n-1 {
			year += r.Intn(12)
			e.Until = api.Until{Has: true, Year: year, Month: 1 + r.Intn(12), On: api.Day{Day: 1 + r.Intn(28)}, At: anyTime(r)}
		}
		z.Eras, z.Rules = append(z.Eras, e), append(z.Rules, anyRules(r, about))
	}
	if r.Intn(25) == 0 {
		z.Eras[r.Intn(n)].Until.Has = r.Intn(2) == 0
	}
	if r.Intn(25) == 0 {
		z.Eras[r.Intn(n)].Off = anyOf(r, 86401, -86401, anyOf(r, wild...))
	}
	return z
}

func TestZonesByChance(t *testing.T) {
	r, told, pairs := rand.New(rand.NewSource(1703)), map[api.Kind]int{}, 0
	for range 20000 {
		z := anyZone(r, anyOf(r, 13, 1900, 1970, 2000, 2024, 9985))
		s, k := footer.Of(z)
		want, wantK := modelOf(z)
		same(t, fmt.Sprint("Of ", z), toldSpec(s, k), toldSpec(want, wantK))
		if k == api.OK {
			if !footer.Right(s) {
				t.Fatalf("Of %v: %+v, which is not right", z, s)
			}
			if s.Dst != "" {
				pairs++
			}
		}
		told[k]++
		y, k := footer.Steady(z)
		if wantK = den.Right(z); k != wantK || k == api.OK && y != modelSteady(z) || k != api.OK && y != 0 {
			t.Fatalf("Steady of %v: %s", z, toldYear(y, k))
		}
	}
	for _, k := range []api.Kind{api.OK, api.BadArg, api.Open, api.Unsorted, api.NoFooter, api.BadFormat, api.Range} {
		if told[k] < 50 {
			t.Errorf("the kind %d is answered %d times", int(k), told[k])
		}
	}
	if pairs < 1000 {
		t.Errorf("just %d specs with a Dst", pairs)
	}
}

// P1705.

// moments: instants about all fires of the zone's last rules in some years, and of other ones.
func moments(r *rand.Rand, z den.Zone, from, to int) []int64 {
	n := len(z.Eras) - 1
	l := []int64{yearBegin(from), yearBegin(from) + 1}
	for _, f := range expand.From(z.Rules[n], from-1, to+1) {
		u := expand.Instant(z.Rules[n], f, z.Eras[n].Off)
		l = append(l, u-1, u, u+1, u+int64(r.Intn(86400*90)))
	}
	for y := from; y < to; y++ {
		l = append(l, yearBegin(y)-1, yearBegin(y), yearBegin(y)+int64(r.Intn(365*86400)))
	}
	return slices.DeleteFunc(l, func(u int64) bool { return u < yearBegin(from) || u >= yearBegin(to) || u > reachEnd })
}

// asTheZone: what a zone's footer tells is what the zone's clocks show, in some years from Steady and 2 on.
func asTheZone(t *testing.T, r *rand.Rand, z den.Zone) bool {
	t.Helper()
	s, k := footer.Of(z)
	if k != api.OK {
		return false
	}
	y, _ := footer.Steady(z)
	for _, years := range [][2]int{{y + 2, y + 5}, {y + 100, y + 101}, {9996, 10000}} {
		from := max(y+2, min(years[0], 9998))
		for _, u := range moments(r, z, from, max(from, years[1])) {
			got, k := footer.At(s, u)
			want, wantK := format.At(z, u)
			if got != want || k != wantK {
				t.Fatalf("At %s of %+v, of %v: %s, not %s", when(u), s, z, toldLocal(got, k), toldLocal(want, wantK))
			}
		}
	}
	return s.Dst != ""
}

func TestFootersTellWhatClocksShow(t *testing.T) {
	r, pairs := rand.New(rand.NewSource(1705)), 0
	for range 12000 {
		z := anyZone(r, anyOf(r, 13, 1900, 1970, 2000, 2024, 9985))
		n := len(z.Eras) - 1
		z.Eras[n].Format = anyOf(r, "CE%sT", "UTC", "GMT/BST")
		if asTheZone(t, r, z) {
			pairs++
		}
	}
	if pairs < 1000 {
		t.Errorf("just %d specs with a Dst", pairs)
	}
	for _, x := range [][2]string{{"1:00 R CE%sT", eu}, {"-5:00 R E%sT", us}, {"0 - LMT 2050;-5:00 R E%sT", us}, {"-24:00 R ABC", "1990 max - Jan 31 167:00 1:00 -;1990 max - Mar 1 -167:00 0 -"}, {"24:00 R ABC", "1990 max - Dec 31 167:00 0 -;1990 max - Feb 1 -167:00 -1:00 -"}, {"0 R ABC", "1990 max - Jan Sun>=1 -167:00u 24:00 -;1990 max - Nov lastSun 143:00u 0 -"}} {
		is(t, "does the footer of "+x[0]+" and "+x[1]+" tell what the zone does", fmt.Sprint(asTheZone(t, r, zone(x[0], x[1]))), "true")
	}
}

func TestFootersFromTheFirstInstantOn(t *testing.T) {
	for _, x := range []struct{ eras, rules string }{
		{"1:00 R CE%sT", "1980 max - Oct 1 0 0 X;1980 1990 - Apr 1 0 1:00 S"}, {"1:00 R CE%sT", "1991 max - Dec 31 167:00 0 X;1980 1990 - Oct 1 0 1:00 S"}, {"0 - LMT 1990 Dec 31;1:00 R CE%sT", eu}, {"1:00 R CE%sT", "1980 1990 - Apr 1 0 1:00 S;1980 1990 - Oct 1 0 0 X"}, {"1:00 R CE%sT", "1980 max - Dec 31 167:00 1:00 S;1970 max - Sep 1 0 0 X"},
	} {
		z := zone(x.eras, x.rules)
		s, k := footer.Of(z)
		y, _ := footer.Steady(z)
		is(t, "Of "+x.rules, kind(k), kind(api.OK))
		for u := yearBegin(y + 2); u < yearBegin(y+4); u += 3600 {
			same(t, "At "+when(u)+" of "+x.rules, toldLocal(footer.At(s, u)), toldLocal(format.At(z, u)))
		}
	}
}

// What is shared.

func TestWhatIsGivenStaysAsItWas(t *testing.T) {
	whole := func() den.Zone {
		z := zone("0:10 - LMT 1911 Mar 11;1:00 R CE%sT 1950;1:00 R CE%sT", "1990 max - Jun 1 0 2:00 Z;"+us+";"+eu)
		z.Rules[2] = append(z.Rules[2], api.Rule{Letter: "spare"})
		z.Eras = append(z.Eras, api.Era{Format: "spare"})
		z.Rules = append(z.Rules, []api.Rule{{Letter: "spare"}})
		return z
	}
	z, want := whole(), fmt.Sprint(whole())
	for n := range 4 {
		for skip := range 5 {
			part := den.Zone{Eras: z.Eras[:n], Rules: slices.Clone(z.Rules[:n])}
			if n > 0 {
				last := part.Rules[n-1]
				part.Rules[n-1] = last[min(skip*3, len(last)):max(len(last)-1, min(skip*3, len(last)))]
				part.Eras = slices.Clone(part.Eras)
				part.Eras[n-1].Until = api.Until{}
			}
			before := fmt.Sprint(part)
			footer.Steady(part)
			footer.Of(part)
			is(t, "a part of it", fmt.Sprint(part), before)
		}
	}
	footer.Steady(z)
	footer.Of(z)
	is(t, "a zone behind its calls", fmt.Sprint(z), want)
}

func TestACallKeepsNothing(t *testing.T) {
	z := zone("1:00 R CE%sT", eu)
	first, k := footer.Of(z)
	is(t, "at first", shown(first, k), "CET-1CEST,M3.5.0,M10.5.0/3")
	z.Eras[0].Off, z.Eras[0].Format = 0, "M%sZ"
	z.Rules[0][0].Letter, z.Rules[0][0].Month, z.Rules[0][1].From = "ES", 4, 2010
	is(t, "another zone", shown(footer.Of(z)), kind(api.BadFormat))
	z.Rules[0][1].Letter = "E"
	is(t, "another letter", shown(footer.Of(z)), "MEZ0MESZ,M4.5.0/1,M10.5.0")
	is(t, "its year", toldYear(footer.Steady(z)), "2011")
	is(t, "the first answer", shown(first, k), "CET-1CEST,M3.5.0,M10.5.0/3")
	is(t, "the first zone again", made("1:00 R CE%sT", eu), "CET-1CEST,M3.5.0,M10.5.0/3")
}
