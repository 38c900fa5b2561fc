package den_test

import (
	"fmt"
	"math/rand"
	"slices"
	"testing"
	"time"

	"noonmark/api"
	"noonmark/den"
	"noonmark/expand"
)

// The model: of all fires from the first year on, and untils' days by the library's calendar.

var (
	reachBegin = time.Date(-9998, 1, 1, 0, 0, 0, 0, time.UTC).Unix()
	reachEnd   = time.Date(9998, 12, 31, 23, 59, 59, 0, time.UTC).Unix()
)

func reached(t int64) bool { return reachBegin <= t && t <= reachEnd }

// saved: what rules do at t, by their fires.
func saved(l []api.Rule, fires []expand.Fire, off int, t int64) (int, string) {
	save, letter := 0, ""
	for i := len(fires) - 1; i >= 0; i-- {
		if r := l[fires[i].I]; r.Save == 0 {
			letter = r.Letter
		}
	}
	for _, f := range fires {
		if reached(t) && expand.Instant(l, f, off) <= t {
			save, letter = l[f.I].Save, l[f.I].Letter
		}
	}
	return save, letter
}

// modelZone: a zone, and the fires of each era's rules.
type modelZone struct {
	den.Zone
	fires [][]expand.Fire
}

// model: the fires are those up to a year.
func model(z den.Zone, last int) modelZone {
	m := modelZone{Zone: z}
	for _, l := range z.Rules {
		m.fires = append(m.fires, expand.From(l, 1, last))
	}
	return m
}

func (m modelZone) saved(i int, t int64) (int, string) {
	switch e := m.Eras[i]; {
	case e.Kind == 1:
		return e.Save, ""
	case e.Kind == 2 && i < len(m.Rules):
		return saved(m.Rules[i], m.fires[i], e.Off, t)
	}
	return 0, ""
}

// dayOf: of an until, as the library counts days.
func dayOf(u api.Until) (time.Time, bool) {
	on, first := u.On, time.Date(u.Year, time.Month(u.Month), 1, 0, 0, 0, 0, time.UTC)
	if !u.Has || u.Year < 1 || u.Year > 9999 || u.Month < 1 || u.Month > 12 || on.Kind < 0 || on.Kind > 3 {
		return first, false
	}
	long, step := first.AddDate(0, 1, -1).Day(), []int{0, -1, 1, -1}[on.Kind]
	if on.Kind == 0 && on.Week != 0 || on.Week < 0 || on.Week > 6 || on.Kind == 1 && on.Day != 0 || on.Kind != 1 && (on.Day < 1 || on.Day > long) {
		return first, false
	}
	if on.Kind == 1 {
		on.Day = long
	}
	d := first.AddDate(0, 0, on.Day-1)
	for step != 0 && int(d.Weekday()) != on.Week {
		d = d.AddDate(0, 0, step)
	}
	return d, true
}

func (m modelZone) end(i int) int64 {
	if i < 0 || i >= len(m.Eras) {
		return 0
	}
	e := m.Eras[i]
	d, ok := dayOf(e.Until)
	if !ok {
		return 0
	}
	t := d.Unix() + int64(e.Until.At.Sec)
	if e.Until.At.Kind == 0 || e.Until.At.Kind == 1 {
		t -= int64(e.Off)
	}
	if e.Until.At.Kind == 0 {
		save, _ := m.saved(i, t-1)
		t -= int64(save)
	}
	return t
}

func beyond(n, most int) bool { return n < -most || n > most }

// right: what is wrong is looked for in all places, then told in its order.
func (m modelZone) right() api.Kind {
	n := len(m.Eras)
	badArg := n < 1 || n > 8 || len(m.Rules) != n
	open, unsorted := false, false
	for i, e := range m.Eras {
		u := e.Until
		badArg = badArg || beyond(e.Off, 86400) || e.Kind < 0 || e.Kind > 2 || e.Kind == 1 && beyond(e.Save, 86400)
		if u.Has {
			_, ok := dayOf(u)
			badArg = badArg || !ok || beyond(u.At.Sec, 604799) || u.At.Kind < 0 || u.At.Kind > 2
		}
		open = open || u.Has == (i == n-1)
		unsorted = unsorted || 0 < i && i < n-1 && m.end(i) <= m.end(i-1)
	}
	for _, l := range m.Rules {
		badArg = badArg || len(l) > 24
		for _, r := range l {
			badArg = badArg || beyond(r.Save, 86400) || beyond(r.At.Sec, 604799) || r.At.Kind < 0 || r.At.Kind > 2
		}
	}
	switch {
	case badArg:
		return api.BadArg
	case open:
		return api.Open
	case unsorted:
		return api.Unsorted
	}
	return api.OK
}

func (m modelZone) at(t int64) (den.State, api.Kind) {
	if k := m.right(); k != api.OK {
		return den.State{}, k
	}
	if !reached(t) {
		return den.State{}, api.Range
	}
	i := 0
	for i < len(m.Eras)-1 && m.end(i) <= t {
		i++
	}
	save, letter := m.saved(i, t)
	return den.State{Era: i, Save: save, Letter: letter}, api.OK
}

// moments: those of the zone's fires and Ends that lie between two instants, and both of these, rising.
func (m modelZone) moments(from, to int64) []int64 {
	l := []int64{from, to}
	for i, e := range m.Eras {
		l = append(l, m.end(i))
		for _, f := range m.fires[i] {
			l = append(l, expand.Instant(m.Rules[i], f, e.Off))
		}
	}
	l = slices.DeleteFunc(l, func(t int64) bool { return t < from || t > to })
	slices.Sort(l)
	return slices.Compact(l)
}

func anyOf[T any](r *rand.Rand, l ...T) T { return l[r.Intn(len(l))] }

func anyDay(r *rand.Rand) api.Day {
	day, week := anyOf(r, 1, 2, 8, 28, 29, 30, 31), r.Intn(7)
	switch r.Intn(4) {
	case 0:
		return api.Day{Kind: 1, Week: week}
	case 1:
		return api.Day{Kind: 2 + r.Intn(2), Day: day, Week: week}
	}
	return api.Day{Day: day}
}

var (
	someShifts  = []int{0, 0, 3600, 7200, -18000, 1800, -3600, 86400, -86400, 1, -1}
	someSeconds = []int{0, 0, 3600, 7200, 86400, -1, 90000, 604799, -604799}
)

// anyRule: of years about that one.
func anyRule(r *rand.Rand, about int) api.Rule {
	from := about + r.Intn(24) - 12
	return api.Rule{
		From:   from,
		To:     anyOf(r, from, from, from+r.Intn(20), from+r.Intn(3), api.Endless, api.Endless, from-1),
		Month:  anyOf(r, 1, 1, 2, 3, 4, 10, 12, 12, r.Intn(14)),
		On:     anyDay(r),
		At:     api.At{Sec: anyOf(r, someSeconds...), Kind: r.Intn(3)},
		Save:   anyOf(r, someShifts...),
		Letter: anyOf(r, "", "S", "D", fmt.Sprint(r.Intn(99))),
	}
}

func anyRules(r *rand.Rand, most, about int) []api.Rule {
	l := make([]api.Rule, r.Intn(most+1))
	for i := range l {
		l[i] = anyRule(r, about)
		if i > 0 && r.Intn(4) == 0 {
			l[i].Month, l[i].On = l[i-1].Month, l[i-1].On
		}
	}
	return l
}

// anyUntil: one that can be, most often.
func anyUntil(r *rand.Rand, year int, rules []api.Rule) api.Until {
	u := api.Until{Has: true, Year: year, Month: 1 + r.Intn(12), On: anyDay(r), At: api.At{Sec: anyOf(r, someSeconds...), Kind: r.Intn(3)}}
	if len(rules) > 0 && r.Intn(2) == 0 { // about a fire
		x := anyOf(r, rules...)
		u.Month, u.On, u.At = x.Month, x.On, x.At
		u.At.Sec += anyOf(r, 0, 0, 1, -1, 3600, x.Save)
	}
	if u.Month < 1 || u.Month > 12 || u.On.Kind != 1 && u.On.Day > 28 {
		u.Month = 1
	}
	return u
}

// anyZone: of years about that one, most often a right zone.
func anyZone(r *rand.Rand, about int) den.Zone {
	var z den.Zone
	n, year := 1+r.Intn(4), about-10
	for i := range n {
		e := api.Era{Off: anyOf(r, someShifts...), Kind: anyOf(r, 0, 1, 2, 2, 2, 2), Save: anyOf(r, someShifts...)}
		l := anyRules(r, 4, about)
		if i < n-1 {
			year += anyOf(r, 0, 1, 1, 2, 5, 8)
			e.Until = anyUntil(r, year, l)
		}
		z.Eras, z.Rules = append(z.Eras, e), append(z.Rules, l)
	}
	return z
}

// spoil: puts a number that may not be right at one place.
func spoil(r *rand.Rand, z *den.Zone) {
	e, l := &z.Eras[r.Intn(len(z.Eras))], z.Rules[r.Intn(len(z.Rules))]
	n := anyOf(r, -1, 0, 1, 2, 3, 32, 86400, 86401, -86401, 604799, 604800, -604800, anyOf(r, wild...))
	places := []*int{&e.Off, &e.Kind, &e.Save, &e.Until.Year, &e.Until.Month, &e.Until.On.Kind, &e.Until.On.Day, &e.Until.On.Week, &e.Until.At.Sec, &e.Until.At.Kind}
	if len(l) > 0 {
		x := &l[r.Intn(len(l))]
		places = append(places, &x.Save, &x.At.Sec, &x.At.Kind, &x.From, &x.To, &x.Month, &x.On.Day, &x.On.Kind)
	}
	switch r.Intn(8) {
	case 0:
		e.Until.Has = !e.Until.Has
	case 1:
		z.Rules = z.Rules[1:]
	case 2:
		i := r.Intn(len(z.Eras))
		z.Eras[0], z.Eras[i] = z.Eras[i], z.Eras[0]
	default:
		*places[r.Intn(len(places))] = n
	}
}

// asTheModel: what is answered of a zone at an instant, and of each era.
func (m modelZone) asTheModel(t *testing.T, at int64) {
	t.Helper()
	same(t, fmt.Sprint("At ", at, " of ", m.Zone), toldState(den.At(m.Zone, at)), toldState(m.at(at)))
	for i, e := range m.Eras {
		if i < len(m.Rules) {
			what := fmt.Sprint("Saving at ", e.Off, ", ", at, " of ", m.Rules[i])
			same(t, what, toldSaving(den.Saving(m.Rules[i], e.Off, at)), toldSaving(saved(m.Rules[i], m.fires[i], e.Off, at)))
		}
	}
}

func (m modelZone) endsAsTheModel(t *testing.T) {
	t.Helper()
	same(t, fmt.Sprint("Right of ", m.Zone), fmt.Sprint(den.Right(m.Zone)), fmt.Sprint(m.right()))
	for i := -1; i <= len(m.Eras); i++ {
		same(t, fmt.Sprint("End of era ", i, " of ", m.Zone), fmt.Sprint(den.End(m.Zone, i)), fmt.Sprint(m.end(i)))
	}
}

func TestZonesByChance(t *testing.T) {
	r := rand.New(rand.NewSource(15))
	for range 2500 {
		about := anyOf(r, 13, 14, 100, 1583, 1900, 1970, 2000, 2024, 2100)
		m := model(anyZone(r, about), about+100)
		m.endsAsTheModel(t)
		moments := m.moments(yearBegin(about-20), yearBegin(about+40))
		for range 12 {
			m.asTheModel(t, anyOf(r, moments...)+anyOf[int64](r, -1, 0, 1, int64(r.Intn(1<<26))))
		}
	}
}

func TestZonesAtTheBoundsByChance(t *testing.T) {
	r := rand.New(rand.NewSource(1515))
	for range 60 {
		about := anyOf(r, 1, 3, 11, 9980, 9988, 9998)
		m := model(anyZone(r, about), 9999)
		m.endsAsTheModel(t)
		moments := m.moments(yearBegin(about-20), yearBegin(about+40))
		for range 10 {
			m.asTheModel(t, anyOf(r, moments...)+anyOf[int64](r, -1, 0, 1, int64(r.Intn(1<<26))))
		}
		for _, at := range []int64{reachBegin - 1, reachBegin, reachEnd, reachEnd + 1} {
			m.asTheModel(t, at)
		}
	}
}

func TestSpoiledZonesByChance(t *testing.T) {
	r := rand.New(rand.NewSource(151515))
	kinds := map[api.Kind]int{}
	for n := range 3000 {
		z := anyZone(r, 2000)
		for range r.Intn(3) {
			if len(z.Rules) == len(z.Eras) {
				spoil(r, &z)
			}
		}
		m := model(z, 2030)
		k := m.right()
		kinds[k]++
		same(t, fmt.Sprint("Right of ", z), fmt.Sprint(den.Right(z)), fmt.Sprint(k))
		if k != api.OK {
			same(t, fmt.Sprint("At of ", z), toldState(den.At(z, yearBegin(2000))), toldState(den.State{}, k))
		}
		if n%30 == 0 { // numbers far out ask for all years
			model(z, 9999).endsAsTheModel(t)
		}
	}
	for _, k := range []api.Kind{api.OK, api.BadArg, api.Open, api.Unsorted} {
		if kinds[k] < 100 {
			t.Errorf("%d of the zones have the kind %d", kinds[k], int(k))
		}
	}
}

// Rules whose years lie far from one another, and whose times have many days.
func TestRulesFarFromOneAnother(t *testing.T) {
	r := rand.New(rand.NewSource(5))
	for range 40 {
		l := make([]api.Rule, 1+r.Intn(4))
		for i := range l {
			l[i] = anyRule(r, anyOf(r, 13, 1900, 2000, 5000, 9980))
			l[i].To = anyOf(r, l[i].To, l[i].From+r.Intn(150))
			if r.Intn(2) == 0 {
				l[i].At.Sec = 86400 * (r.Intn(1<<anyOf(r, 4, 10, 16, 23)) - 1<<anyOf(r, 2, 9, 15, 22))
			}
			if r.Intn(4) == 0 {
				l[i].Save = 86400 * (r.Intn(1<<16) - 1<<15)
			}
		}
		fires := expand.From(l, 1, 9999)
		off := anyOf(r, anyOf(r, someShifts...), 86400*(r.Intn(1<<22)-1<<21))
		for range 20 {
			at := yearBegin(anyOf(r, 1, 1900, 2000, 2024, 5000, 9990, r.Intn(19998)-9998)) + int64(r.Intn(1<<25))
			if n := len(fires); n > 0 && r.Intn(2) == 0 {
				at = expand.Instant(l, fires[r.Intn(n)], off) + anyOf[int64](r, -1, 0, 1)
			}
			same(t, fmt.Sprint("Saving at ", off, ", ", at, " of ", l), toldSaving(den.Saving(l, off, at)), toldSaving(saved(l, fires, off, at)))
		}
	}
}

func TestEveryShortListOfRules(t *testing.T) {
	var some []api.Rule
	for _, years := range [][2]int{{1896, 1899}, {1903, 1904}, {1904, api.Endless}} {
		for _, on := range []api.Day{{Day: 1}, {Day: 29}} {
			for _, kind := range []int{0, 2} {
				for _, save := range []int{0, 86400} {
					some = append(some, api.Rule{From: years[0], To: years[1], Month: 2, On: on, At: api.At{Kind: kind}, Save: save, Letter: fmt.Sprint(len(some))})
				}
			}
		}
	}
	for _, a := range some {
		for _, b := range some {
			l := []api.Rule{a, b}
			fires := expand.From(l, 1, 1907)
			for _, f := range fires {
				for _, off := range []int{3600, -43200} {
					at := expand.Instant(l, f, off)
					for _, t2 := range []int64{at - 1, at, at + 1} {
						same(t, fmt.Sprint("Saving at ", off, ", ", t2, " of ", l), toldSaving(den.Saving(l, off, t2)), toldSaving(saved(l, fires, off, t2)))
					}
				}
			}
		}
	}
}

// P1505.

func TestBetweenFiresAndEndsNothingChanges(t *testing.T) {
	r := rand.New(rand.NewSource(1505))
	for range 700 {
		m := model(anyZone(r, 2000), 2060)
		if den.Right(m.Zone) != api.OK {
			continue
		}
		l := m.moments(yearBegin(1980), yearBegin(2040))
		for i := 1; i < len(l); i++ {
			first := toldState(den.At(m.Zone, l[i-1]))
			for _, at := range []int64{l[i-1] + (l[i]-l[i-1])/2, l[i] - 1} {
				same(t, fmt.Sprint("from ", l[i-1], " to ", at, " of ", m.Zone), toldState(den.At(m.Zone, at)), first)
			}
		}
	}
}
