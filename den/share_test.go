package den_test

import (
	"fmt"
	"slices"
	"testing"
	"time"
	_ "time/tzdata"

	"noonmark/api"
	"noonmark/den"
)

// What is shared.

// wipe: writes into a zone, spare room too.
func wipe(z den.Zone) {
	for _, l := range z.Rules[:cap(z.Rules)] {
		for i := range l[:cap(l)] {
			l[:cap(l)][i] = api.Rule{Save: -7}
		}
	}
	for i := range z.Eras[:cap(z.Eras)] {
		z.Eras[:cap(z.Eras)][i] = api.Era{Off: -7, Until: api.Until{Has: true}}
	}
	for i := range z.Rules[:cap(z.Rules)] {
		z.Rules[:cap(z.Rules)][i] = nil
	}
}

func TestAnswersAreTheCallers(t *testing.T) {
	s := space(source)
	for _, name := range []string{"Plain", "By", "Many", "Three"} {
		first, ok := den.Of(s, name)
		want := toldZone(first, ok)
		other, _ := den.Of(s, name)
		wipe(first)
		is(t, name+" beside a changed one", toldZone(other, ok), want)
		is(t, name+" behind a changed one", toldZone(den.Of(s, name)), want)
	}
	z, _ := den.Of(s, "Many")
	want := fmt.Sprint(z.Rules[4])
	for i := range z.Rules[1] {
		z.Rules[1][i] = api.Rule{}
	}
	_ = append(z.Rules[1], api.Rule{}, api.Rule{}, api.Rule{})
	is(t, "another era's rules of the same name", fmt.Sprint(z.Rules[4]), want)
}

func TestWhatIsGivenStaysAsItWas(t *testing.T) {
	make8 := func() den.Zone {
		z := zone("1:00 R A 1990 Mar 1;2:00 R A 1995 Jul 1;-1:00 0:30 A 2000;1:00 R A", us)
		z.Eras, z.Rules = slices.Grow(z.Eras, 4), slices.Grow(z.Rules, 4)
		copy(z.Eras[4:8], z.Eras)
		copy(z.Rules[4:8], z.Rules)
		return z
	}
	z := make8()
	whole := func(z den.Zone) string { return fmt.Sprint(z.Eras[:8], z.Rules[:8]) }
	want := whole(make8())
	for n := range 5 {
		part := den.Zone{Eras: z.Eras[:n], Rules: z.Rules[:n]}
		den.Right(part)
		for i := range 5 {
			den.End(part, i)
			den.At(part, yearBegin(1985+5*i))
		}
		for i, l := range part.Rules {
			den.Saving(l[:len(l)/2], z.Eras[i].Off, yearBegin(1980))
			den.Saving(l, z.Eras[i].Off, yearBegin(1960))
		}
	}
	is(t, "a zone behind its calls", whole(z), want)
}

func TestACallKeepsNothing(t *testing.T) {
	z := zone(threeEras, eu)
	before := toldState(den.At(z, at("2024-07-01 00:00:00")))
	z.Rules[2][0].Save, z.Eras[2].Off = 1800, 0
	is(t, "another saving", toldState(den.At(z, at("2024-07-01 00:00:00"))), `2 1800 "S"`)
	z.Eras[2].Kind = 0
	is(t, "another kind", toldState(den.At(z, at("2024-07-01 00:00:00"))), `2 0 ""`)
	is(t, "the first zone again", toldState(den.At(zone(threeEras, eu), at("2024-07-01 00:00:00"))), before)
}

// Zones that the library knows too, in years in which none of their eras begins about a fire: it lets the saving go on from era to era there, which the chapter does not.

const (
	germany = "1977 1980 - Apr Sun>=1 1:00u 1:00 S;1977 only - Sep lastSun 1:00u 0 -;1978 only - Oct 1 1:00u 0 -;1979 1995 - Sep lastSun 1:00u 0 -;1981 max - Mar lastSun 1:00u 1:00 S;1996 max - Oct lastSun 1:00u 0 -"
	sydney  = "1971 1985 - Oct lastSun 2:00s 1:00 D;1972 only - Feb 27 2:00s 0 S;1973 1981 - Mar Sun>=1 2:00s 0 S;1982 only - Apr Sun>=1 2:00s 0 S;1983 1985 - Mar Sun>=1 2:00s 0 S;1986 1989 - Mar Sun>=15 2:00s 0 S;1986 only - Oct 19 2:00s 1:00 D;1987 1999 - Oct lastSun 2:00s 1:00 D;1990 1995 - Mar Sun>=1 2:00s 0 S;1996 2005 - Mar lastSun 2:00s 0 S;2000 only - Aug lastSun 2:00s 1:00 D;2001 2007 - Oct lastSun 2:00s 1:00 D;2006 only - Apr Sun>=1 2:00s 0 S;2007 only - Mar lastSun 2:00s 0 S;2008 max - Apr Sun>=1 2:00s 0 S;2008 max - Oct Sun>=1 2:00s 1:00 D"
	russia  = "1981 1984 - Apr 1 0:00 1:00 S;1981 1983 - Oct 1 0:00 0 -;1984 1995 - Sep lastSun 2:00s 0 -;1985 2010 - Mar lastSun 2:00s 1:00 S;1996 2010 - Oct lastSun 2:00s 0 -"
	moscow  = "3:00 R MSK/MSD 1991 Mar 31 2:00s;2:00 R EE%sT 1992 Jan 19 2:00s;3:00 R MSK/MSD 2011 Mar 27 2:00s;4:00 - MSK 2014 Oct 26 2:00s;3:00 - MSK"
	plate   = "1993 only - Mar Sun>=1 0:00 0 -;1999 only - Oct Sun>=1 0:00 1:00 -;2000 only - Mar 3 0:00 0 -;2007 only - Dec 30 0:00 1:00 -;2008 2009 - Mar Sun>=15 0:00 0 -;2008 only - Oct Sun>=15 0:00 1:00 -"
	buenos  = "-3:00 R A 1999 Oct 3;-4:00 R B 2000 Mar 3;-3:00 R A"
)

func TestZonesOfTheLibrary(t *testing.T) {
	for _, x := range []struct {
		name, eras, rules string
		from, to          int
	}{
		{"America/New_York", "-5:00 R E%sT", us, 1968, 2024}, {"America/Los_Angeles", "-8:00 R P%sT", us, 1968, 2024}, {"Europe/Berlin", "1:00 R CE%sT", germany, 1980, 2024}, {"Europe/Athens", "2:00 R EE%sT", germany, 1982, 2024}, {"Australia/Sydney", "10:00 R AE%sT", sydney, 1972, 2024}, {"Europe/Moscow", moscow, russia, 1992, 2024}, {"America/Argentina/Buenos_Aires", buenos, plate, 2001, 2024},
	} {
		place, err := time.LoadLocation(x.name)
		if err != nil {
			t.Fatal(err)
		}
		z := zone(x.eras, x.rules)
		for at := yearBegin(x.from); at < yearBegin(x.to); {
			s, k := den.At(z, at)
			_, off := time.Unix(at, 0).In(place).Zone()
			same(t, x.name+" at "+shown(at), fmt.Sprint(k, z.Eras[s.Era].Off+s.Save, s.Save != 0), fmt.Sprint(api.OK, off, time.Unix(at, 0).In(place).IsDST()))
			_, end := time.Unix(at, 0).In(place).ZoneBounds()
			if next := at + 86400*9; end.IsZero() || end.Unix() > next {
				at = next
			} else if at == end.Unix()-1 {
				at = end.Unix()
			} else {
				at = end.Unix() - 1
			}
		}
	}
}
