package expand_test

import (
	"fmt"
	"math/rand"
	"slices"
	"testing"
	"time"

	"noonmark/api"
	"noonmark/expand"
)

// The model: fires told from the words of the chapter, year by year and day by day, by the library's calendar.

func numberOf(y, m, d int) int64 {
	return time.Date(y, time.Month(m), d, 0, 0, 0, 0, time.UTC).Unix() / 86400
}

func weekOf(n int64) int { return int(time.Unix(n*86400, 0).UTC().Weekday()) }

// dayOf: the number of a rule's day in a year, if there is such a day.
func dayOf(r api.Rule, y int) (int64, bool) {
	d := r.On
	inMonth, inWeek := 1 <= d.Day && d.Day <= 31, 0 <= d.Week && d.Week <= 6
	right := map[int]bool{0: inMonth && d.Week == 0, 1: inWeek && d.Day == 0, 2: inMonth && inWeek, 3: inMonth && inWeek}
	if !right[d.Kind] || r.Month < 1 || r.Month > 12 {
		return 0, false
	}
	n, next, step := numberOf(y, r.Month, d.Day), numberOf(y, r.Month+1, 1), int64(-1)
	if d.Kind == 1 {
		n = next - 1
	}
	if n >= next {
		return 0, false
	}
	if d.Kind == 2 {
		step = 1
	}
	for d.Kind != 0 && weekOf(n) != d.Week {
		n += step
	}
	return n, true
}

// history: all fires up to the year last, in order.
func history(l []api.Rule, last int) []expand.Fire {
	var all []expand.Fire
	for y := 1; y <= min(last, 9999); y++ {
		begin := len(all)
		for i, r := range l {
			if y < r.From || y > r.To {
				continue
			}
			if n, ok := dayOf(r, y); ok {
				at := n*86400 + int64(r.At.Sec)
				place := begin
				for place < len(all) && all[place].At <= at {
					place++
				}
				all = slices.Insert(all, place, expand.Fire{I: i, Year: y, At: at})
			}
		}
	}
	for i := 1; i < len(all); i++ {
		all[i].Before = l[all[i-1].I].Save
	}
	return all
}

// between: those of the fires that are of the years from from to to.
func between(all []expand.Fire, from, to int) []expand.Fire {
	var l []expand.Fire
	for _, f := range all {
		if from <= f.Year && f.Year <= to {
			l = append(l, f)
		}
	}
	return l
}

func span(l []api.Rule) (first, last int, endless bool) {
	if len(l) == 0 {
		return 0, 0, false
	}
	begins, ends := []int{}, []int{l[0].From}
	for _, r := range l {
		begins = append(begins, r.From)
		if r.To == 10000 {
			endless = true
			ends = append(ends, r.From)
		} else {
			ends = append(ends, r.To)
		}
	}
	return slices.Min(begins), slices.Max(ends), endless
}

// letter: of all fires.
func letter(l []api.Rule, all []expand.Fire) string {
	for _, f := range all {
		if l[f.I].Save == 0 {
			return l[f.I].Letter
		}
	}
	return ""
}

// asTheModel: what is answered of the rules, and of stretches about a year.
func asTheModel(t *testing.T, r *rand.Rand, l []api.Rule, about int) {
	t.Helper()
	all := history(l, about+100)
	same(t, fmt.Sprint("Span of ", l), toldSpan(expand.Span(l)), toldSpan(span(l)))
	same(t, fmt.Sprint("Letter of ", l), expand.Letter(l), letter(l, all))
	for range 8 {
		from := about + r.Intn(60) - 20
		to := from + r.Intn(40) - 3
		same(t, fmt.Sprint("Year ", from, " of ", l), told(expand.Year(l, from)), told(between(all, from, from)))
		same(t, fmt.Sprint("From ", from, " to ", to, " of ", l), told(expand.From(l, from, to)), told(between(all, from, to)))
	}
}

func anyOf[T any](r *rand.Rand, l ...T) T { return l[r.Intn(len(l))] }

func anyDay(r *rand.Rand) api.Day {
	day, week := anyOf(r, 1, 8, 28, 29, 30, 31, 1+r.Intn(31)), r.Intn(7)
	switch kind := r.Intn(5); kind {
	case 0:
		return api.Day{Day: day}
	case 1:
		return api.Day{Kind: 1, Week: week}
	case 2, 3:
		return api.Day{Kind: kind, Day: day, Week: week}
	}
	return api.Day{Kind: r.Intn(6) - 1, Day: r.Intn(35) - 1, Week: r.Intn(9) - 1}
}

// anyRule: of a year about that one, most often one that fires.
func anyRule(r *rand.Rand, about int) api.Rule {
	from := about + r.Intn(24) - 12
	return api.Rule{
		From:   from,
		To:     anyOf(r, from, from, from+r.Intn(20), from+r.Intn(3), api.Endless, api.Endless, api.Endless+1, from-1),
		Month:  anyOf(r, 1, 2, 2, 2, 3, 4, 10, 12, 12, 1+r.Intn(12), r.Intn(15)-1),
		On:     anyDay(r),
		At:     api.At{Sec: anyOf(r, 0, 3600, 7200, 86400, -1, -86400, 90000, 604799, -604799, 86400*(r.Intn(800)-400)), Kind: r.Intn(5) - 1},
		Save:   anyOf(r, 0, 0, 3600, 1800, -3600, r.Intn(9)),
		Letter: anyOf(r, "", "S", "D", "W", fmt.Sprint(r.Intn(99))),
	}
}

// anyRules: at most so many, some of which fire when the one ahead does.
func anyRules(r *rand.Rand, most, about int) []api.Rule {
	l := make([]api.Rule, r.Intn(most+1))
	for i := range l {
		l[i] = anyRule(r, about)
		if i > 0 && r.Intn(4) == 0 {
			l[i].Month, l[i].On, l[i].At.Sec = l[i-1].Month, l[i-1].On, l[i-1].At.Sec
		}
	}
	return l
}

func TestRulesByChance(t *testing.T) {
	r := rand.New(rand.NewSource(14))
	for range 6000 {
		about := anyOf(r, 1, 1, 4, 100, 1583, 1896, 1900, 1970, 2000, 2024, 2100, 9993, 9999)
		asTheModel(t, r, anyRules(r, 6, about), about)
	}
}

func TestManyRulesByChance(t *testing.T) {
	r := rand.New(rand.NewSource(1414))
	for range 100 {
		about := 1890 + r.Intn(250)
		asTheModel(t, r, anyRules(r, 100, about), about)
	}
}

func TestEveryShortListOfRules(t *testing.T) {
	var some []api.Rule
	for _, from := range []int{1903, 1904} {
		for _, to := range []int{1903, 1905, api.Endless} {
			for _, on := range []api.Day{{Day: 28}, {Day: 29}, {Kind: 2, Day: 28}} {
				for _, save := range []int{0, 3600} {
					some = append(some, api.Rule{From: from, To: to, Month: 2, On: on, Save: save, Letter: fmt.Sprint(len(some))})
				}
			}
		}
	}
	r := rand.New(rand.NewSource(141414))
	for _, a := range some {
		for _, b := range some {
			l := []api.Rule{a, b, some[r.Intn(len(some))]}
			for n := range len(l) + 1 {
				asTheModel(t, r, l[:n], 1904)
			}
		}
	}
}

func TestAllYearsOfSomeRules(t *testing.T) {
	r := rand.New(rand.NewSource(1))
	for range 12 {
		l := append(anyRules(r, 4, 3), api.Rule{From: -9, To: api.Endless, Month: 2, On: api.Day{Day: 29}, Save: 1})
		all := history(l, 9999)
		same(t, fmt.Sprint("all years of ", l), told(expand.From(l, -20, 10020)), told(all))
		for y := 9990; y <= 10010; y++ {
			same(t, fmt.Sprint("Year ", y, " of ", l), told(expand.Year(l, y)), told(between(all, y, y)))
		}
	}
}
