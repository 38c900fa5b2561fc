package footer

import (
	"cmp"
	"slices"

	"noonmark/api"
	"noonmark/civil"
	"noonmark/dayform"
	"noonmark/den"
	"noonmark/expand"
	"noonmark/format"
)

// byRules: the kind of an era, as api.Era numbers them.
const byRules = 2

// The kinds of a rule's time, as api.At numbers them.
const (
	standard  = 1
	universal = 2
)

// The bounds of Steady.
const (
	leastSteady = 1
	mostSteady  = 9998
)

const (
	february   = 2
	june       = 6
	mostPlaced = 28 // the last day of each month that all months have
	leastApart = 2  // months
	mostApart  = 10
)

// Steady answers the year from which on only rules without an end fire.
func Steady(z den.Zone) (int, api.Kind) {
	if k := den.Right(z); k != api.OK {
		return 0, k
	}
	_, year, _ := expand.Span(lastRules(z))
	year = min(max(year, lastBegin(z)), mostSteady-1) // bounded ahead of the sum, since it may be the greatest int
	return max(year+1, leastSteady), api.OK
}

// Of answers what a zone's clocks do for ever.
func Of(z den.Zone) (Spec, api.Kind) {
	steady, k := Steady(z)
	if k != api.OK {
		return Spec{}, k
	}
	l := endless(lastRules(z))
	switch {
	case !tellable(l):
		return Spec{}, api.NoFooter
	case len(l) == 2:
		return changing(lastEra(z), l)
	}
	return constant(z, steady+1)
}

func lastEra(z den.Zone) api.Era { return z.Eras[len(z.Eras)-1] }

// lastRules answers the rules of the last era; it has none, if it does not ask for them.
func lastRules(z den.Zone) []api.Rule {
	if lastEra(z).Kind != byRules {
		return nil
	}
	return z.Rules[len(z.Rules)-1]
}

// lastBegin answers the year in which the last era begins.
func lastBegin(z den.Zone) int {
	if len(z.Eras) == 1 {
		return 0
	}
	y, ok := reached(den.End(z, len(z.Eras)-2))
	if !ok {
		return api.MaxYear
	}
	return y
}

func endless(l []api.Rule) []api.Rule {
	var some []api.Rule
	for _, r := range l {
		if r.To == api.Endless {
			some = append(some, r)
		}
	}
	return some
}

// tellable: do these rules without an end fire each year, and are they none, or one that doesn't save, or that and one that saves?
func tellable(l []api.Rule) bool {
	if len(l) > 2 || slices.ContainsFunc(l, strays) {
		return false
	}
	still := 0
	for _, r := range l {
		if r.Save == 0 {
			still++
		}
	}
	return still == min(len(l), 1)
}

// strays: are there years in which the rule has no day?
func strays(r api.Rule) bool {
	_, k := dayform.Of(r.On, plainYear, r.Month)
	return k != api.OK
}

// constant answers the spec of clocks that show the same from that year on: by June all that fires in the year ahead has fired.
func constant(z den.Zone, year int) (Spec, api.Kind) {
	day, _ := civil.Days(year, june, 1)
	l, k := format.At(z, day*daySeconds)
	if k != api.OK {
		return Spec{}, k
	}
	if l.Dst {
		return Spec{}, api.NoFooter
	}
	return Spec{Std: l.Abbr, Off: l.Off}, api.OK
}

// changing answers the spec of an era with two rules without an end, one of which saves.
func changing(e api.Era, l []api.Rule) (Spec, api.Kind) {
	still, saving := l[0], l[1]
	if still.Save != 0 {
		still, saving = saving, still
	}
	start, starts := fire{saving, e.Off, 0}.edge()
	end, ends := fire{still, e.Off, saving.Save}.edge()
	if !apart(still.Month, saving.Month) || !starts || !ends || !within(e.Off+saving.Save, mostOff) {
		return Spec{}, api.NoFooter
	}
	std, k := behind(e, still)
	dst, other := behind(e, saving)
	if k = cmp.Or(k, other); k != api.OK {
		return Spec{}, k
	}
	return Spec{Std: std.Abbr, Off: std.Off, Dst: dst.Abbr, DOff: dst.Off, Start: start, End: end}, api.OK
}

// apart: do so many months lie between two that neither's fire can come to the other's?
func apart(a, b int) bool {
	n := max(a, b) - min(a, b)
	return leastApart <= n && n <= mostApart
}

// behind answers what an era's clocks show behind a fire of the rule.
func behind(e api.Era, r api.Rule) (api.Local, api.Kind) {
	return format.Of(e, den.State{Save: r.Save, Letter: r.Letter})
}

// fire: of a rule, in each year: of an era that is off ahead of universal time, with the saving ahead of it.
type fire struct {
	api.Rule
	off   int
	ahead int
}

// edge answers the edge that the fire is, if it is one; the rule has a day in each year.
func (f fire) edge() (Edge, bool) {
	tell := f.teller()
	e := tell()
	e.Sec += f.sec()
	return e, e.right()
}

// teller answers how the rule's day is told as an edge: where it is none, as one that is not right.
func (f fire) teller() func() Edge {
	switch f.On.Kind {
	case plain:
		return f.fixed
	case last:
		return f.lastOne
	case from:
		return f.from
	}
	return f.upTo
}

func (f fire) fixed() Edge {
	begin, _ := civil.Days(plainYear, 1, 1)
	day, _ := civil.Days(plainYear, f.Month, f.On.Day)
	return Edge{Fixed: true, Day: int(day-begin) + 1}
}

func (f fire) lastOne() Edge { return Edge{Month: f.Month, Week: lastWeek, Day: f.On.Week} }

func (f fire) from() Edge { return f.onOrBehind(f.On.Day) }

func (f fire) upTo() Edge {
	if f.On.Day == civil.Long(plainYear, f.Month) && f.Month != february {
		return f.lastOne()
	}
	return f.onOrBehind(f.On.Day - (weekDays - 1))
}

// onOrBehind tells the first such day of the week from a day of the month on: it is some days behind another day of the week, whose place among its like is the same in each month.
func (f fire) onOrBehind(day int) Edge {
	if day < 1 || day > mostPlaced {
		return Edge{}
	}
	some := (day - 1) % weekDays
	return Edge{
		Month: f.Month,
		Week:  (day-1-some)/weekDays + 1,
		Day:   (f.On.Week - some + weekDays) % weekDays,
		Sec:   some * daySeconds,
	}
}

// sec answers the seconds behind the day's midnight as clocks show them ahead of the fire.
func (f fire) sec() int {
	sec := f.At.Sec
	switch f.At.Kind {
	case universal:
		sec += f.off
		fallthrough
	case standard:
		sec += f.ahead
	}
	return sec
}
