package den

import (
	"slices"

	"noonmark/api"
	"noonmark/civil"
	"noonmark/expand"
)

// mostAhead: days that a rule's day can be ahead of its month.
const mostAhead = 6

// farOff: more seconds than all years together have: what is farther off makes no difference.
const farOff = 1 << 40

// fired answers the rule of a year's last fire that is not behind t.
func fired(l []api.Rule, year, off int, t int64) (api.Rule, bool) {
	for _, f := range slices.Backward(expand.Year(l, year)) {
		if expand.Instant(l, f, off) <= t {
			return l[f.I], true
		}
	}
	return api.Rule{}, false
}

// latest answers the last year up to y that a rule has; 0, if it is ahead of all years in which one fires.
func latest(l []api.Rule, y int) int {
	last := 0
	for _, r := range l {
		if end := min(y, r.To); r.From <= end {
			last = max(last, end)
		}
	}
	return last
}

// lastFiring answers a year behind which no rule fires up to t.
func lastFiring(l []api.Rule, off int, t int64) int {
	var sec, save int64
	for _, r := range l {
		sec = max(sec, size(r.At.Sec))
		save = max(save, size(r.Save))
	}
	day, _ := civil.Clock(t + sec + save + size(off))
	y, _, _, k := civil.Date(day + mostAhead)
	if k != api.OK {
		return api.MaxYear
	}
	return y
}

// size answers how far from 0 a number is, as far as that makes a difference.
func size(n int) int64 { return max(min(int64(n), farOff), -max(int64(n), -farOff)) }
