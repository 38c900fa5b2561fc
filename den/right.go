package den

import (
	"slices"

	"noonmark/api"
)

// The bounds of what a right zone has, in seconds.
const (
	mostShift = 86400  // of an Off, and of a Save
	mostSec   = 604799 // of a time
)

// ends answers the Ends of all eras but the last one, and whether the zone is right.
func ends(z Zone) ([]int64, api.Kind) {
	if !fit(z) {
		return nil, api.BadArg
	}
	last := len(z.Eras) - 1
	var l []int64
	for i, e := range z.Eras {
		if e.Until.Has == (i == last) {
			return nil, api.Open
		}
		if i < last {
			l = append(l, End(z, i))
		}
	}
	for i := 1; i < len(l); i++ {
		if l[i] <= l[i-1] {
			return nil, api.Unsorted
		}
	}
	return l, api.OK
}

// fit: can all of the zone's numbers be?
func fit(z Zone) bool {
	if len(z.Eras) == 0 || len(z.Eras) > api.MaxEras || len(z.Rules) != len(z.Eras) {
		return false
	}
	return !slices.ContainsFunc(z.Eras, badEra) && !slices.ContainsFunc(z.Rules, badRules)
}

func badEra(e api.Era) bool {
	if !within(e.Off, mostShift) || e.Kind < steady || e.Kind > byRules {
		return true
	}
	return e.Kind == always && !within(e.Save, mostShift) || e.Until.Has && badUntil(e.Until)
}

func badUntil(u api.Until) bool {
	_, ok := clock(u)
	return !ok || badTime(u.At)
}

func badRules(l []api.Rule) bool {
	return len(l) > api.MaxRules || slices.ContainsFunc(l, badRule)
}

func badRule(r api.Rule) bool { return !within(r.Save, mostShift) || badTime(r.At) }

func badTime(a api.At) bool {
	return !within(a.Sec, mostSec) || a.Kind < wall || a.Kind > universal
}

func within(n, most int) bool { return -most <= n && n <= most }
