package graph_test

import (
	"fmt"
	"math"
	"math/rand"
	"slices"
	"strings"
	"testing"

	"noonmark/api"
	"noonmark/document"
	"noonmark/graph"
	"noonmark/line"
	"noonmark/names"
)

// rule: the text of one, as line shows it, which is another one by its letter.
func rule(name string, letter any) string {
	return fmt.Sprintf("Rule %s 2000 only - Mar lastSun 1:00u 1:00 %v\n", name, letter)
}

// tooLong: the text of a rule that is none of its name's.
func tooLong(name string) string {
	return fmt.Sprintf("Rule %s 1800 1951 - Mar lastSun 1:00u 1:00 -\n", name)
}

// rules: n of them, with letters from that number on.
func rules(name string, from, n int) string {
	var s string
	for i := range n {
		s += rule(name, from+i)
	}
	return s
}

// P1301: Uses, Users, Linked.

func TestUses(t *testing.T) {
	for _, x := range []struct {
		texts []string
		want  string // of A
	}{
		// no name of rules, one, several
		{[]string{"Zone A 0:00 - X"}, ""}, {[]string{"Zone A 0 - X 2000\n1 1:00 Y 2001\n2 - Z"}, ""},
		{[]string{rule("R", "S") + "Zone A 0 R X"}, "R"}, {[]string{"Zone A 0 R X", rule("R", "S")}, "R"}, {[]string{rule("R", "S") + "Zone A 0 - X 2000\n1 R Y 2001\n2 - Z"}, "R"}, {[]string{rule("R", "S") + "Zone A 0 - X 2000\n\n# note\n1 R Y"}, "R"},
		{[]string{rule("R", "S") + rule("Q", "S") + "Zone A 0 Q X 2000\n1 R Y"}, "Q R"}, {[]string{"Zone A 0 P X 2000\n1 - X 2001\n1 Q X 2002\n1 1:00 X 2003\n0 R X"}, "P Q R"},
		// the same one twice
		{[]string{rule("R", "S") + "Zone A 0 R X 2000\n1 R Y"}, "R"}, {[]string{rule("R", "S") + "Zone A 0 R X 2000\n1 - Y 2001\n2 R Z"}, "R"}, {[]string{"Zone A 0 Q X 2000\n0 R X 2001\n0 Q X 2002\n0 R X 2003\n0 Q X"}, "Q R"}, {[]string{"Zone A 0 R X 2000" + strings.Repeat("\n1 R Y 2001", 6) + "\n2 R Z"}, "R"},
		// names that fall, and those that differ by a byte
		{[]string{rule("R", "S") + rule("Q", "S") + "Zone A 0 R X 2000\n1 Q Y"}, "Q R"}, {[]string{"Zone A 0 e X 2000\n0 d X 2001\n0 c X 2002\n0 b X 2003\n0 a X"}, "a b c d e"}, {[]string{"Zone A 0 r X 2000\n0 R X 2001\n0 _R X 2002\n0 RR X 2003\n0 R-R X 2004\n0 R9 X"}, "R R-R R9 RR _R r"},
		// names without a rule, and with those alone that are none of them
		{[]string{"Zone A 0 R X"}, "R"}, {[]string{tooLong("R") + "Zone A 0 R X"}, "R"}, {[]string{rule("r", "S") + "Zone A 0 R X"}, "R"},
		// amounts, and none, in a name's place
		{[]string{rule("R", "S") + "Zone A 0 1:00 X"}, ""}, {[]string{"Zone A 0 -1:00 X 2000\n0 0 X 2001\n0 24 X"}, ""}, {[]string{rule("R", "S") + "Zone A 0 1:00 X 2000\n0 R X 2001\n0 0:30 X"}, "R"},
		// what it is, and what it is not
		{[]string{rule("R", "S") + "Zone B 0 R X\nLink B A"}, ""}, {[]string{rule("R", "S") + "Zone B 0 R X\nLink B C\nLink C A"}, ""}, {[]string{"Link A A"}, ""}, {[]string{"Link R A\n" + rule("R", "S")}, ""}, {[]string{""}, ""}, {[]string{rule("A", "S")}, ""}, {[]string{rule("R", "S") + "Zone a 0 R X\nZone A/B 0 R X"}, ""}, {[]string{"Zone A 0 R"}, ""},
		// of several, what the name stands for
		{[]string{"Zone A 0 R X\nZone A 0 Q X"}, "R"}, {[]string{"Zone A 0 - X\nZone A 0 Q X"}, ""}, {[]string{"", "Zone A 0 R X", "Zone A 0 Q X"}, "R"}, {[]string{"Link B A\nZone A 0 R X"}, ""}, {[]string{"Zone A 0 R X\nLink B A"}, "R"},
		// eras that count
		{[]string{"Zone A 0 R X\n0 Q X"}, "R"}, {[]string{"Zone A 0 R X 2000\nfoo\n0 Q X"}, "Q R"}, {[]string{"Zone A 0 R X 2000\nLink A B\n0 Q X"}, "R"}, {[]string{"Zone A 0 R X 2000" + strings.Repeat("\n1 - Y 2001", 7) + "\n2 Q Z"}, "R"}, {[]string{"Zone A 0 R X 2000" + strings.Repeat("\n1 - Y 2001", 6) + "\n2 Q Z"}, "Q R"},
	} {
		w := of(t, x.texts...)
		is(t, fmt.Sprintf("Uses of %q", x.texts), strings.Join(graph.Uses(w.s, "A"), " "), x.want)
		w.asTheModel(t, fmt.Sprintf("%q", x.texts))
	}
}

func TestUsers(t *testing.T) {
	for _, x := range []struct {
		texts []string
		want  string // of R
	}{
		// by no zone, by one, by several
		{[]string{""}, ""}, {[]string{rule("R", "S")}, ""}, {[]string{rule("R", "S") + "Zone A 0 - X\nZone B 0 1:00 X\nZone C 0 Q X\nZone D 0 r X\nZone E 0 RR X"}, ""},
		{[]string{rule("R", "S") + "Zone A 0 R X"}, "A"}, {[]string{rule("R", "S") + "Zone A 0 - X 2000\n0 Q X 2001\n0 R X"}, "A"}, {[]string{rule("R", "S") + "Zone A 0 R X 2000\n0 R X"}, "A"},
		{[]string{rule("R", "S") + "Zone A 0 R X\nZone B 0 - X\nZone C 0 R X"}, "A C"}, {[]string{rule("R", "S") + "Zone C 0 R X\nZone B 0 R X", "Zone A 0 R X"}, "A B C"}, {[]string{"Zone b 0 R X\nZone B 0 R X\nZone a 0 R X\nZone A 0 R X\nZone A/B 0 R X\nZone A_B 0 R X\nZone A-B 0 R X\nZone A+1 0 R X\nZone Ab 0 R X"}, "A A+1 A-B A/B A_B Ab B a b"},
		// a name without a rule is used, too
		{[]string{"Zone A 0 R X"}, "A"}, {[]string{tooLong("R") + "Zone A 0 R X"}, "A"},
		// a name that is a zone's, or a link's
		{[]string{"Zone R 0 - X"}, ""}, {[]string{"Zone R 0 - X\n" + rule("R", "S")}, ""}, {[]string{"Zone R 0 R X\n" + rule("R", "S")}, "R"}, {[]string{"Zone R 0 - X\nZone A 0 R X"}, "A"}, {[]string{"Zone A 0 - X\nLink A R"}, ""}, {[]string{"Zone A 0 R X\nLink A R\n" + rule("R", "S")}, "A"}, {[]string{"Link A R\nLink R A"}, ""},
		// links use nothing
		{[]string{rule("R", "S") + "Zone B 0 R X\nLink B A\nLink B C\nLink A D"}, "B"},
		// what names stand for
		{[]string{"Zone A 0 - X\nZone A 0 R X\nZone B 0 R X\nZone B 0 - X"}, "B"}, {[]string{"Zone A 0 - X", "Zone A 0 R X"}, ""}, {[]string{"Link B A\nZone A 0 R X\nZone B 0 - X"}, ""}, {[]string{"Zone B 0 R X\nLink A B\nLink B A"}, "B"},
		// eras that count, of zones in which something is wrong
		{[]string{"Zone A 0 R X 2000"}, "A"}, {[]string{"Zone A 0 - X 2000\nLink A B\n0 R X"}, ""}, {[]string{"Zone A 0 - X 2000" + strings.Repeat("\n1 - Y 2001", 7) + "\n2 R Z"}, ""}, {[]string{"Zone A 0 R"}, ""},
	} {
		w := of(t, x.texts...)
		is(t, fmt.Sprintf("Users of %q", x.texts), strings.Join(graph.Users(w.s, "R"), " "), x.want)
		w.asTheModel(t, fmt.Sprintf("%q", x.texts))
	}
}

func TestLinked(t *testing.T) {
	for _, x := range []struct {
		texts []string
		want  string // to A
	}{
		// none, links to it, and links to those
		{[]string{"Zone A 0 - X"}, ""}, {[]string{"Zone A 0 - X\nZone B 0 - X\nLink B C"}, ""}, {[]string{"Zone A 0 - X\nLink A B"}, "B"}, {[]string{"Link A B", "Zone A 0 - X"}, "B"},
		{[]string{"Zone A 0 - X\nLink A D\nLink A C\nLink A B"}, "B C D"}, {[]string{"Zone A 0 - X\nLink A C\nLink C B"}, "B C"}, {[]string{"Link B E\nLink C B\nLink D C\nLink A D", "Zone A 0 - X"}, "B C D E"}, {[]string{"Zone A 0 - X\nLink A B\nLink B C\nLink B D\nLink D E\nLink A F\nZone G 0 - X\nLink G H"}, "B C D E F"},
		{[]string{"Zone A 0 - X\nLink A b\nLink A B\nLink b Bb\nLink B a\nLink A A/B"}, "A/B B Bb a b"},
		// of a link, and of what stands for nothing
		{[]string{"Zone B 0 - X\nLink B A\nLink A C\nLink B D"}, ""}, {[]string{"Link A A"}, ""}, {[]string{"Link A B"}, ""}, {[]string{"Link A B\nLink B C"}, ""}, {[]string{""}, ""}, {[]string{"Link B A\nLink A C"}, ""}, {[]string{rule("A", "S") + "Link A B"}, ""}, {[]string{"Zone A 0\nLink A B"}, ""},
		// links that come back to themselves among them
		{[]string{"Zone A 0 - X\nLink A B\nLink C C\nLink E D\nLink D E\nLink D F"}, "B"}, {[]string{"Link C D\nLink D C\nZone A 0 - X\nLink A B\nLink B E\nLink none F"}, "B E"}, {[]string{"Zone A 0 - X\nLink A A\nLink A B"}, "B"}, {[]string{"Zone A 0 - X\nLink B A\nLink A B"}, "B"}, {[]string{"Link A A\nZone A 0 - X\nLink A B"}, ""},
		// what names stand for
		{[]string{"Zone A 0 - X\nLink A B\nLink C B"}, "B"}, {[]string{"Zone A 0 - X\nLink C B\nLink A B"}, ""}, {[]string{"Zone A 0 - X\nZone B 0 - X\nLink A B"}, ""}, {[]string{"Zone A 0 - X\nLink A B\nZone B 0 - X\nLink B C"}, "B C"}, {[]string{"Link C B", "Link A B", "Zone A 0 - X\nZone C 0 - X"}, ""}, {[]string{"Zone A 0 - X\nLink A B\nLink A B"}, "B"},
		// though something is wrong
		{[]string{"Zone A 0 R X 2000\nLink A B\nLink B C"}, "B C"},
	} {
		w := of(t, x.texts...)
		is(t, fmt.Sprintf("Linked to A of %q", x.texts), strings.Join(graph.Linked(w.s, "A"), " "), x.want)
		w.asTheModel(t, fmt.Sprintf("%q", x.texts))
	}
}

// longWay: n links, one to the other, and the last one to Z.
func longWay(n int, last string) *names.Space {
	d := document.Parse(last)
	target := "Z"
	for i := range n {
		name := fmt.Sprintf("L%06d", i+1)
		d.Links = append(d.Links, document.Link{Name: name, Target: target, Line: i + 1})
		target = name
	}
	s, _ := names.Make([]names.Doc{{Name: "a", D: d}})
	return s
}

// TestLongWays: many links, of which the last one comes to a zone, to nothing, or back.
func TestLongWays(t *testing.T) {
	const n = 50000
	last := fmt.Sprintf("L%06d", n)
	for _, x := range []struct {
		zone string
		want string
	}{{"Zone Z 0:00 - X", ""}, {"", "[undefined]"}, {"Link " + last + " Z", "[cycle]"}, {"Link L000009 Z", "[cycle]"}} {
		s := longWay(n, x.zone)
		linked, closure := graph.Linked(s, "Z"), graph.Closure(s, last)
		if x.want != "" {
			empty(t, "Linked with "+x.zone, linked)
			is(t, "Closure with "+x.zone, closure, x.want)
			continue
		}
		is(t, "Linked", fmt.Sprintf("%d %s %s %s", len(linked), linked[0], linked[n/2], linked[n-1]), fmt.Sprintf("%d L000001 L%06d %s", n, n/2+1, last))
		is(t, "Closure", fmt.Sprintf("%d|%s|%s|%s", len(closure), closure[0], closure[n-1], closure[n]), fmt.Sprintf("%d|Link L%06d %s|Link Z L000001|Zone Z 0:00 - X", n+1, n-1, last))
		is(t, "Changed", graph.Changed(s, nil), "[Z]")
	}
}

// P1302: Closure.

func TestClosureOfWhatComesToNoZone(t *testing.T) {
	for _, x := range []struct {
		texts []string
		want  string // of A
	}{
		// nothing
		{[]string{""}, "undefined"}, {[]string{rule("A", "S") + "Zone B 0 A X"}, "undefined"}, {[]string{"Zone a 0 - X"}, "undefined"}, {[]string{"Link A B"}, "undefined"}, {[]string{"Zone A 0 -"}, "undefined"}, {[]string{"foo", "bar"}, "undefined"},
		// a link to nothing, and to such a link
		{[]string{"Link B A"}, "undefined"}, {[]string{"Link C B\nLink B A"}, "undefined"}, {[]string{"Link B A", "Link C B", "Link D C"}, "undefined"}, {[]string{"Link R A\n" + rule("R", "S")}, "undefined"}, {[]string{"Link C A\nLink B A\nZone B 0 - X"}, "undefined"},
		// a link on a ring, and one that leads to a ring
		{[]string{"Link A A"}, "cycle"}, {[]string{"Link B A\nLink A B"}, "cycle"}, {[]string{"Link B A", "Link A B"}, "cycle"}, {[]string{"Link B A\nLink C B\nLink A C"}, "cycle"}, {[]string{"Link A A\nZone A 0 - X"}, "cycle"}, {[]string{"Link A B\nLink B A\nZone B 0 - X"}, "cycle"},
		{[]string{"Link B A\nLink B B"}, "cycle"}, {[]string{"Link B A\nLink C B\nLink C C"}, "cycle"}, {[]string{"Link B A\nLink C B\nLink D C\nLink C D"}, "cycle"}, {[]string{"Link B A", "Link C B", "Link B C"}, "cycle"},
	} {
		w := of(t, x.texts...)
		is(t, fmt.Sprintf("Closure of %q", x.texts), fmt.Sprintf("%q", graph.Closure(w.s, "A")), fmt.Sprintf("%q", []string{x.want}))
		w.asTheModel(t, fmt.Sprintf("%q", x.texts))
	}
}

const (
	march   = "Rule EU 1981 max - Mar lastSun 1:00u 1:00 S"
	october = "Rule EU 1996 max - Oct lastSun 1:00u 0:00 -"
)

func TestClosure(t *testing.T) {
	R := rule("R", "S")
	r := strings.TrimSpace(R)
	for _, x := range []struct {
		texts []string
		want  string // of A, | between
	}{
		// a zone without a rule
		{[]string{"Zone A 0:00 - X"}, "Zone A 0:00 - X"}, {[]string{"Zone A -1:30 1:00 X-1"}, "Zone A -1:30 1:00 X-1"}, {[]string{"Zone B 0:00 - X\n" + R + "Zone A 1:00 - %z\nLink A B\nLink A C"}, "Zone A 1:00 - %z"},
		// several eras
		{[]string{"Zone A 0:00 - X 2000\n1:00 - Y"}, "Zone A 0:00 - X 2000|1:00 - Y"}, {[]string{"Zone A 0:00 - X 2000 Mar\n\n1:00 0:30 Y 2001 Mar lastSun 1:00u\n# note\n2:00 - X/Y"}, "Zone A 0:00 - X 2000 Mar|1:00 0:30 Y 2001 Mar lastSun 1:00u|2:00 - X/Y"},
		{[]string{"Zone A 0:00 - X 2000" + strings.Repeat("\n1:00 - Y 2001", 6) + "\n2:00 - Z"}, "Zone A 0:00 - X 2000" + strings.Repeat("|1:00 - Y 2001", 6) + "|2:00 - Z"},
		// rules of one name, wherever they are
		{[]string{R + "Zone A 1:00 R X%sT"}, "Zone A 1:00 R X%sT|" + r}, {[]string{"Zone A 1:00 R X%sT", "\n" + R}, "Zone A 1:00 R X%sT|" + r}, {[]string{march + "\n" + october + "\nZone A 1:00 EU CE%sT"}, "Zone A 1:00 EU CE%sT|" + march + "|" + october}, {[]string{october + "\nZone A 1:00 EU CE%sT", "", march}, "Zone A 1:00 EU CE%sT|" + october + "|" + march},
		{[]string{R + "Zone A 0:00 R X 2000\n1:00 R Y"}, "Zone A 0:00 R X 2000|1:00 R Y|" + r}, {[]string{R + R + "Zone A 0:00 R X"}, "Zone A 0:00 R X|" + r + "|" + r}, {[]string{R + rule("Q", "S") + rule("r", "S") + "Zone A 0:00 R X\nZone B 0:00 Q X"}, "Zone A 0:00 R X|" + r},
		// of several names: by the names' bytes
		{[]string{R + "Zone A 0:00 R X 2000\n1:00 EU Y\n" + march + "\n" + rule("R", "T") + october}, "Zone A 0:00 R X 2000|1:00 EU Y|" + march + "|" + october + "|" + r + "|" + strings.TrimSpace(rule("R", "T"))}, {[]string{rule("c", 1) + rule("b", 2) + rule("a", 3), "Zone A 0:00 c X 2000\n1:00 a X 2001\n0:00 - X 2002\n0:00 b X 2003\n0:00 a X"}, "Zone A 0:00 c X 2000|1:00 a X 2001|0:00 - X 2002|0:00 b X 2003|0:00 a X|" + strings.TrimSpace(rule("a", 3)) + "|" + strings.TrimSpace(rule("b", 2)) + "|" + strings.TrimSpace(rule("c", 1))},
		// links on its way
		{[]string{"Zone B 0:00 - X\nLink B A"}, "Link B A|Zone B 0:00 - X"}, {[]string{"Link B A", "Zone B 0:00 - X 2000\n1:00 - Y"}, "Link B A|Zone B 0:00 - X 2000|1:00 - Y"}, {[]string{"Zone B 0:00 R X\nLink B A\n" + R}, "Link B A|Zone B 0:00 R X|" + r},
		{[]string{"Link C B\nLink B A\nZone C 0:00 - X"}, "Link B A|Link C B|Zone C 0:00 - X"}, {[]string{"Link D C", "Link C B", "Link B A\n" + R, "Zone D 0:00 R X\nLink D E"}, "Link B A|Link C B|Link D C|Zone D 0:00 R X|" + r},
		// what names stand for
		{[]string{"Zone A 0:00 - X\nZone A 1:00 - Y"}, "Zone A 0:00 - X"}, {[]string{"Zone A 0:00 - X\nLink B A\nZone B 0:00 - X"}, "Zone A 0:00 - X"}, {[]string{"Link B A\nZone A 0:00 - X\nZone B 0:00 - X"}, "Link B A|Zone B 0:00 - X"},
		// lines that are written otherwise
		{[]string{"  zo \"A\" 0 - X # note"}, "Zone A 0:00 - X"}, {[]string{"ZONE\tA -0:00 - X 2000 january 1 0\r\n  -1 \"1\" Y 2001 mar 1\r\n  -01:00:00 - \"Z\" 2002 dec lastSun 024\r\n - - Q\r"}, "Zone A 0:00 - X 2000|-1:00 1:00 Y 2001 Mar|-1:00 - Z 2002 Dec lastSun 24:00|0:00 - Q"},
		{[]string{"li B A\nz B 0 EU X\nru EU 1981 ma - march lastSun 1u 1 S #\nR EU 1996 1996 - o Sun>=8 01:00s -0 -"}, "Link B A|Zone B 0:00 EU X|Rule EU 1981 max - Mar lastSun 1:00u 1:00 S|Rule EU 1996 only - Oct Sun>=8 1:00s 0:00 -"},
		// a name that is bad: in a line of its zone
		{[]string{"Zone A 0:00 - X 2000"}, "bad|Zone A 0:00 - X 2000"}, {[]string{"Zone A 0:00 R X"}, "bad|Zone A 0:00 R X"}, {[]string{"Zone A 0:00 R X 2000\n1:00 - Y"}, "bad|Zone A 0:00 R X 2000|1:00 - Y"}, {[]string{"Zone A 0:00 - X 2000\n1:00 Q Y\n" + R}, "bad|Zone A 0:00 - X 2000|1:00 Q Y"}, {[]string{"Zone B 0:00 - X 2000\nZone A 0:00 - X"}, "bad|Zone A 0:00 - X"}, {[]string{"Zone A 0:00 - X 2000\n0:00 - Y 2001\n"}, "bad|Zone A 0:00 - X 2000|0:00 - Y 2001"},
		// in a rule: one that lasts too long, one too many, one that a zone's end is missing ahead of
		{[]string{"Zone A 0:00 R X\n" + R + tooLong("R")}, "bad|Zone A 0:00 R X|" + r}, {[]string{"Zone A 0:00 R X\n" + tooLong("R")}, "bad|Zone A 0:00 R X"}, {[]string{"Zone A 0:00 R X\n" + rules("R", 0, 25)}, "bad|Zone A 0:00 R X|" + strings.ReplaceAll(strings.TrimSpace(rules("R", 0, 24)), "\n", "|")}, {[]string{"Zone A 0:00 R X", "Zone B 0 - X 2000\n" + R}, "bad|Zone A 0:00 R X|" + r},
		// in a link on its way
		{[]string{"Zone B 0:00 - X\nZone C 0:00 - X 2000\nLink B A"}, "bad|Link B A|Zone B 0:00 - X"}, {[]string{"Link C B\nLink B A\nZone C 0:00 - X 2000"}, "bad|Link B A|Link C B|Zone C 0:00 - X 2000"}, {[]string{"Link B A\nZone C 0 - X\nZone D 0 - X 2000\nLink C B"}, "bad|Link B A|Link C B|Zone C 0:00 - X"},
		// one that is not bad, though much is wrong
		{[]string{"foo\nZone A 0:00 - X\nfoo\nLink B B\nLink none D\nZone A 0 - X\n" + rules("R", 0, 25) + tooLong("Q") + "0 - X"}, "Zone A 0:00 - X"}, {[]string{"Zone A 0:00 - X 2000\n0:00 - Y 2001\n" + R}, "Zone A 0:00 - X 2000|0:00 - Y 2001"},
	} {
		w := of(t, x.texts...)
		is(t, fmt.Sprintf("Closure of %q", x.texts), strings.Join(graph.Closure(w.s, "A"), "|"), x.want)
		w.asTheModel(t, fmt.Sprintf("%q", x.texts))
	}
}

// TestClosureIsBadByAnyDiag: just where one stands in a line that the name hangs on.
func TestClosureIsBadByAnyDiag(t *testing.T) {
	for k := api.Kind(1); k <= 21; k++ {
		for doc := range 3 {
			for n := range 3 {
				l := docs("Link B A\n\nLink C B", "Zone C 0:00 R X 2000\n\n0:00 - Y", "\n"+rule("R", "S"))
				l[doc].D.Diags = append(l[doc].D.Diags, api.Diag{Line: n, Col: n * 7, K: k})
				s := made(t, l)
				at := fmt.Sprintf("%d%d", doc, n)
				for name, hurt := range map[string]string{"A": "00 02 10 12 21", "B": "02 10 12 21", "C": "10 12 21"} {
					got := strings.Join(graph.Closure(s, name), "|")
					is(t, fmt.Sprintf("Closure of %s, with kind %d at %s", name, int(k), at), strings.HasPrefix(got, "bad|"), strings.Contains(hurt, at))
					is(t, "how often it is bad", strings.Count(got, "bad"), strings.Count(hurt, at))
				}
			}
		}
	}
}

// P1303: Changed.

func TestChanged(t *testing.T) {
	R := rule("R", "S")
	for _, x := range []struct {
		ahead, behind []string
		want          string
	}{
		// nothing ahead, nothing behind
		{nil, nil, ""}, {nil, []string{"", "\n", "# note"}, ""}, {[]string{""}, []string{"foo"}, ""}, {nil, []string{R + "Link A B\nLink C C\nfoo"}, ""},
		{nil, []string{"Zone A 0 - X"}, "A"}, {nil, []string{"Zone C 0 - X\nZone B 0 R X", "Link C D\nZone A 0 - X 2000"}, "A B C"},
		// the same
		{[]string{"Zone A 0 R X\nLink A B\n" + R}, []string{"Zone A 0 R X\nLink A B\n" + R}, ""}, {[]string{"Zone A 0 R X 2000\nZone B 0 - X"}, []string{"Zone A 0 R X 2000\nZone B 0 - X"}, ""},
		// a zone that is there on one side alone
		{[]string{"Zone A 0 - X"}, []string{"Zone A 0 - X\nZone B 0 - X"}, "B"}, {[]string{"Zone A 0 - X\nZone C 0 - X"}, []string{"Zone A 0 - X\nZone B 0 - X"}, "B C"}, {[]string{"Zone A 0 - X"}, []string{"Zone a 0 - X"}, "A a"}, {[]string{"Zone A 0 - X"}, []string{"Zone A 0 -"}, "A"}, {[]string{"Zone A 0 - X 2000"}, nil, "A"},
		// its line, an era
		{[]string{"Zone A 0 - X\nZone B 0 - X"}, []string{"Zone A 1 - X\nZone B 0 - X"}, "A"}, {[]string{"Zone A 0 - X"}, []string{"Zone A 0 - Y"}, "A"}, {[]string{"Zone A 0 - X"}, []string{"Zone A 0 0 X"}, "A"}, {[]string{"Zone A 0 1:00 X"}, []string{"Zone A 0 2:00 X"}, "A"}, {[]string{"Zone A 0 R X\n" + R + rule("Q", "S")}, []string{"Zone A 0 Q X\n" + R + rule("Q", "S")}, "A"},
		{[]string{"Zone A 0 - X 2000\n0 - Y"}, []string{"Zone A 0 - X 2001\n0 - Y"}, "A"}, {[]string{"Zone A 0 - X 2000\n0 - Y"}, []string{"Zone A 0 - X 2000\n0 - Z"}, "A"}, {[]string{"Zone A 0 - X 2000\n0 - Y"}, []string{"Zone A 0 - X"}, "A"}, {[]string{"Zone A 0 - X 2000\n0 - Y"}, []string{"Zone A 0 - X 2000\n0 - Z 2001\n0 - Y"}, "A"}, {[]string{"Zone A 0 - X 2000\n0 - Y 2001\n0 - Z"}, []string{"Zone A 0 - X 2000\n0 - Z"}, "A"}, {[]string{"Zone A 0 - X 2000 Mar 1\n0 - Y"}, []string{"Zone A 0 - X 2000 Mar Sun>=1\n0 - Y"}, "A"},
		// a rule
		{[]string{"Zone A 0 R X\n" + R}, []string{"Zone A 0 R X\n" + rule("R", "T")}, "A"}, {[]string{"Zone A 0 R X\n" + R}, []string{"Zone A 0 R X\n" + R + rule("R", "T")}, "A"}, {[]string{"Zone A 0 R X\n" + R + rule("R", "T")}, []string{"Zone A 0 R X\n" + rule("R", "T")}, "A"}, {[]string{"Zone A 0 R X\n" + R + rule("R", "T")}, []string{"Zone A 0 R X\n" + rule("R", "T") + R}, "A"}, {[]string{"Zone A 0 R X\nZone B 0 R X\nZone C 0 Q X\n" + R + rule("Q", "S")}, []string{"Zone A 0 R X\nZone B 0 R X\nZone C 0 Q X\n" + rule("R", "T") + rule("Q", "S")}, "A B"},
		{[]string{"Zone A 0 - X 2000\n0 R Y\n" + R}, []string{"Zone A 0 - X 2000\n0 R Y\n" + rule("R", "T")}, "A"}, {[]string{"Zone A 0 R X\n" + R, rule("R", "T")}, []string{"Zone A 0 R X\n" + rule("R", "T"), R}, "A"}, {[]string{"Zone A 0 R X\n" + R}, []string{"Zone A 0 R X\n" + R + R}, "A"},
		// badness alone
		{[]string{"Zone A 0 - X"}, []string{"Zone B 0 - X 2000\nZone A 0 - X"}, "A B"}, {[]string{"Zone B 0 - X\nZone A 0 - X"}, []string{"Zone B 0 - X 2000\nZone A 0 - X"}, "A B"}, {[]string{"Zone A 0 R X\n" + R}, []string{"Zone A 0 R X\n" + R + tooLong("R")}, "A"}, {[]string{"Zone A 0 R X\n" + rules("R", 0, 24)}, []string{"Zone A 0 R X\n" + rules("R", 0, 25)}, "A"}, {[]string{"Zone A 0 R X"}, []string{"Zone A 0 R X\n" + tooLong("R")}, ""}, {[]string{"Zone A 0 R X\n" + tooLong("R")}, []string{"Zone A 0 R X\n" + R + tooLong("R")}, "A"},
		{[]string{"Zone A 0 R X\n" + R + tooLong("R")}, []string{"Zone A 0 R X\n" + R + tooLong("R") + tooLong("R")}, ""}, {[]string{"Zone A 0 R X\n" + rules("R", 0, 25)}, []string{"Zone A 0 R X\n" + rules("R", 0, 30)}, ""}, {[]string{"Zone A 0 - X 2000\n0 - Y"}, []string{"Zone A 0 - X 2000\nfoo\n0 - Y"}, ""},
		// a rule that no zone uses
		{[]string{"Zone A 0 Q X\nZone B 0 - X\n" + rule("Q", "S")}, []string{"Zone A 0 Q X\nZone B 0 - X\n" + rule("Q", "S") + R}, ""}, {[]string{"Zone A 0 1:00 X\n" + R}, []string{"Zone A 0 1:00 X\n" + rule("R", "T") + tooLong("R")}, ""}, {[]string{"Zone A 0 R X\n" + R}, []string{"Zone A 0 R X\n" + R + rule("r", "S") + rule("RR", "S")}, ""}, {[]string{"Zone B 0 - X\nLink B A\n" + rule("A", "S")}, []string{"Zone B 0 - X\nLink B A\n" + rule("A", "T")}, ""},
		// a note, or white, or another way of writing the same
		{[]string{"Zone A 0 R X\n" + R}, []string{"# note\n\nZone A 0 R X # note\n \t\n" + R + "# note"}, ""}, {[]string{"Zone A 0 R X 2000\n1 - Y\n" + R}, []string{"  zo\tA   0:00 \"R\" X 2000 jan 1 0  \r\n# note\n  001:00 - Y\r\n" + strings.ReplaceAll(R, " ", "  ") + "\r\n"}, ""}, {[]string{"Zone A 0 EU X\n" + march}, []string{"Zone A 0 EU X\nru EU 1981 ma - march lastSun 1u 1 S#"}, ""},
		// elsewhere in the documents
		{[]string{"Zone A 0 R X\nZone B 0 - X\n" + R}, []string{R, "Zone B 0 - X", "\n\nZone A 0 R X"}, ""}, {[]string{"Zone A 0 - X"}, []string{"Zone A 0 - X\nZone A 1 - Y"}, ""}, {[]string{"Zone A 0 - X"}, []string{"Zone A 1 - Y\nZone A 0 - X"}, "A"},
		// a zone that has become a link, and links
		{[]string{"Zone A 0 - X\nZone B 0 - X"}, []string{"Link B A\nZone B 0 - X"}, "A"}, {[]string{"Zone A 0 - X"}, []string{"Link A A"}, "A"}, {[]string{"Zone A 0 - X\nZone B 0 - X"}, []string{"Link B A\nLink A B"}, "A B"}, {[]string{"Zone A 0 - X\nLink B B"}, []string{"Link B A\nZone B 0 - X"}, "A B"}, {[]string{"Zone A 0 - X\nZone B 0 - X"}, []string{"Link B A\nZone A 0 - X\nZone B 0 - X"}, "A"},
		{[]string{"Zone A 0 - X\nZone B 1 - Y\nLink A C"}, []string{"Zone A 0 - X\nZone B 1 - Y\nLink B C"}, ""}, {[]string{"Zone A 0 - X\nLink A C\nLink C D"}, []string{"Zone A 1 - X\nLink A C\nLink C D"}, "A"}, {[]string{"Zone A 0 - X"}, []string{"Zone A 0 - X\nLink A B\nLink none C\nLink D D"}, ""}, {[]string{"Link A B"}, []string{"Link B A"}, ""}, {[]string{"Zone A 0 - X\nLink A B\nLink none C"}, []string{"Zone A 0 - X"}, ""}, {[]string{"Link A B"}, []string{"Zone B 0 - X"}, "B"},
	} {
		changeAsTheModel(t, fmt.Sprintf("%q to %q", x.ahead, x.behind), of(t, x.ahead...), of(t, x.behind...))
		a, b := of(t, x.ahead...), of(t, x.behind...)
		is(t, fmt.Sprintf("Changed from %q to %q", x.ahead, x.behind), strings.Join(graph.Changed(a.s, b.s), " "), x.want)
		is(t, fmt.Sprintf("Changed from %q back to %q", x.behind, x.ahead), strings.Join(graph.Changed(b.s, a.s), " "), x.want)
	}
}

// TestChangedByAnyPart: each part of a rule, an era and an until is one that changes a zone.
func TestChangedByAnyPart(t *testing.T) {
	was := strings.Fields("Rule R 2000 2001 - Mar lastSun 1:00 1:00 S Zone A 1:00 R X%sT 2000 Mar lastSun 1:00")
	others := strings.Fields("- - 1999 2002 - Apr lastMon 1:00u 0:30 T - - 2:00 1:00 Y 2001 Apr lastSat 1:00s")
	text := func(l []string) string {
		return strings.Join(l[:10], " ") + "\n" + strings.Join(l[10:], " ") + "\n0 - X\nZone B 0 R Y\nZone C 0 - X"
	}
	a := of(t, text(was))
	for i, x := range others {
		if x == "-" {
			continue
		}
		l := slices.Clone(was)
		l[i] = x
		want := "[A B]"
		if i >= 10 {
			want = "[A]"
		}
		b := of(t, text(l))
		is(t, "Changed with "+x+" for "+was[i], graph.Changed(a.s, b.s), want)
		changeAsTheModel(t, x, a, b)
	}
}

// P1304: laws, and all promises together.

// parts: lines of texts, by letters; a | ends a document.
var parts = map[rune]string{
	'A': "Zone A 0 - X", 'B': "zo B 0 R Y # note", 'C': "Zone C 0 Q X 2000\n1:00 R Y", 'O': "Zone A 0 - X 2000", 'D': "Zone A 0 R X 2000\n0 Q Y",
	'k': "Link B A", 'l': "Link A B", 'm': "Link C B", 'o': "Link A A", 'p': "Link B C",
	'r': "Rule R 2000 only - Jan 1 0 0 -", 's': "Rule R 2000 only - Jan 1 0 1 S", 'q': "Rule R 1800 1951 - Jan 1 0 1 S", 'x': " 0 - Y", 't': "Rule Q 2000 max - Jan lastSun 2s 1 -",
}

func worldOf(t *testing.T, script string) world {
	t.Helper()
	var l []string
	for _, part := range strings.Split(script, "|") {
		var s string
		for _, c := range part {
			s += parts[c] + "\n"
		}
		l = append(l, s)
	}
	return of(t, l...)
}

// everyScript calls f with each text of at most n of these letters, of at most three |.
func everyScript(n int, letters string, f func(script string)) {
	var grow func(script string)
	grow = func(script string) {
		if strings.Count(script, "|") > 3 {
			return
		}
		f(script)
		if len(script) == n {
			return
		}
		for _, c := range letters {
			grow(script + string(c))
		}
	}
	grow("")
}

func TestEveryShortSource(t *testing.T) {
	check := func(script string) { worldOf(t, script).asTheModel(t, script) }
	everyScript(4, "ABClrqx|", check)
	everyScript(3, "ABCDOklmoprstqx|", check)
	everyScript(4, "Aklmop|", check)
}

// TestEveryChange: of each short source to another one.
func TestEveryChange(t *testing.T) {
	var l []world
	var scripts []string
	everyScript(2, "ABCDOlkorsqtx|", func(script string) {
		l, scripts = append(l, worldOf(t, script)), append(scripts, script)
	})
	for i, a := range l {
		for j := range i {
			changeAsTheModel(t, scripts[i]+" and "+scripts[j], a, l[j])
		}
	}
}

// chanceText: of lines by chance.
func chanceText(chance *rand.Rand, lines int) string {
	var s string
	for range chance.Intn(lines) {
		s += chanceLine(chance) + "\n"
	}
	return s
}

func chanceLine(chance *rand.Rand) string {
	name := func() string { return string(rune('A' + chance.Intn(6))) }
	rules := func() string { return []string{"-", "1:00", "R", "Q", "P", "A"}[chance.Intn(6)] }
	from := 1800 + chance.Intn(200)
	return []string{
		fmt.Sprintf("Zone %s 0 %s X", name(), rules()),
		fmt.Sprintf("zone %s 0 %s X 2000 # note\n0 %s Y 2001\n\t00:00 - \"Z\"", name(), rules(), rules()),
		fmt.Sprintf("Zone %s 0 %s X 2000", name(), rules()),
		fmt.Sprintf("0 %s X", rules()),
		fmt.Sprintf("Link %s %s", name(), name()),
		fmt.Sprintf("L  %s %s", name(), name()),
		fmt.Sprintf("Rule %s %d %d - Jan 1 0 0 %d", string("RQPA"[chance.Intn(4)]), from, from+50+chance.Intn(102), chance.Intn(1000)),
		fmt.Sprintf("r R %d ma - jul Sun>=%d 01:00u 1 %d", from, 1+chance.Intn(20), chance.Intn(1000)),
		"# note", "foo", "", strings.Repeat("Rule Q 2000 only - Jan 1 0 0 -\n", chance.Intn(10)),
	}[chance.Intn(12)]
}

func TestSourcesByChance(t *testing.T) {
	chance := rand.New(rand.NewSource(1304))
	for i := range 1000 {
		var texts []string
		for range 1 + chance.Intn(4) {
			texts = append(texts, chanceText(chance, 4+i%20))
		}
		of(t, texts...).asTheModel(t, fmt.Sprint("sources by chance, number ", i))
	}
}

// TestChangesByChance: one line at a time is put in, put in another's place, or taken out.
func TestChangesByChance(t *testing.T) {
	chance := rand.New(rand.NewSource(1303))
	for i := range 100 {
		texts := []string{chanceText(chance, 20), chanceText(chance, 20)}
		a := of(t, texts...)
		for range 20 {
			texts = slices.Clone(texts)
			d := chance.Intn(2)
			l := strings.Split(texts[d], "\n")
			from := chance.Intn(len(l))
			to := from + chance.Intn(2)
			var with []string
			if chance.Intn(3) > 0 {
				with = []string{chanceLine(chance)}
			}
			texts[d] = strings.Join(slices.Replace(l, from, to, with...), "\n")
			b := of(t, texts...)
			changeAsTheModel(t, fmt.Sprintf("change by chance of sources %d, %q", i, texts), a, b)
			a = b
		}
	}
}

// TestWhatSaysNothingChangesNothing: a note, or white, put in anywhere.
func TestWhatSaysNothingChangesNothing(t *testing.T) {
	chance := rand.New(rand.NewSource(2))
	for range 50 {
		text := chanceText(chance, 30)
		a := of(t, text)
		want := answers(a.s, a.asked())
		l := strings.Split(text, "\n")
		for i := range l {
			for _, nothing := range []string{"", " \t\r", "# Zone A 0 - X"} {
				b := of(t, strings.Join(slices.Insert(slices.Clone(l), i, nothing), "\n"))
				is(t, "Changed with a line that says nothing", graph.Changed(a.s, b.s), "[]")
				is(t, "answers with a line that says nothing", answers(b.s, a.asked()), want)
			}
			b := of(t, strings.Join(slices.Replace(slices.Clone(l), i, i+1, "\t"+strings.TrimSuffix(l[i], "\r")+" # note"), "\n"))
			is(t, "Changed with a note behind a line", graph.Changed(a.s, b.s), "[]")
		}
	}
}

// TestAtTheLimits: as many zones as there is room for, each with as many eras and rules as may be.
func TestAtTheLimits(t *testing.T) {
	source := func(save string) world {
		var l []string
		for i := range 8 {
			l = append(l, strings.Split(strings.TrimSpace(strings.ReplaceAll(rules(fmt.Sprint("R", i), 0, api.MaxRules), " 1:00 ", save)), "\n")...)
		}
		for n := 0; len(l) <= api.MaxLines*api.MaxDocs-api.MaxEras; n++ {
			for i := range api.MaxEras {
				l = append(l, fmt.Sprintf("%s0 R%d X %d", []string{"", fmt.Sprintf("Z Z%03d ", n)}[max(0, 1-i)], i, 2001+i))
			}
			l[len(l)-1] = "0 R7 X"
		}
		var texts []string
		for part := range slices.Chunk(l, api.MaxLines) {
			texts = append(texts, strings.Join(part, "\n"))
		}
		return of(t, texts...)
	}
	a, b := source(" 1:00 "), source(" 0:30 ")
	n := len(a.s.Names())
	is(t, "how many zones", n, (api.MaxLines*api.MaxDocs-8*api.MaxRules)/api.MaxEras)
	is(t, "a zone's lines", len(graph.Closure(a.s, "Z000")), api.MaxEras+8*api.MaxRules)
	is(t, "its rules", graph.Uses(a.s, "Z000"), "[R0 R1 R2 R3 R4 R5 R6 R7]")
	is(t, "their users", len(graph.Users(a.s, "R4")), n)
	is(t, "how many have changed", fmt.Sprint(len(graph.Changed(a.s, b.s)), len(graph.Changed(a.s, source(" 1:00 ").s))), fmt.Sprint(n, " 0"))
}

// What no text makes.

// TestErasOfOtherKinds: just those of Kind 2 have a name of rules.
func TestErasOfOtherKinds(t *testing.T) {
	for _, kind := range []int{math.MinInt, -1, 0, 1, 2, 3, 1 << 32, 1<<32 + 2, math.MaxInt} {
		d := document.Parse(rule("R", "S"))
		d.Zones = []document.Zone{{Name: "A", Eras: []api.Era{{Kind: kind, Rules: "R", Format: "X"}}, Lines: []int{4}}}
		s := made(t, []names.Doc{{Name: "a", D: d}})
		want := "[] []"
		if kind == 2 {
			want = "[R] [A]"
		}
		is(t, fmt.Sprintf("an era of kind %d", kind), fmt.Sprint(graph.Uses(s, "A"), graph.Users(s, "R")), want)
	}
}

// TestLinesThatNoTextSays: they have no text, but each has its place.
func TestLinesThatNoTextSays(t *testing.T) {
	eras := []api.Era{{Format: "X", Until: api.Until{Has: true, Year: 2000, Month: 1, On: api.Day{Day: 1}}}, {Format: "X Y"}, {Format: "Z"}}
	d := document.Doc{Zones: []document.Zone{{Name: "A", Eras: eras, Lines: []int{0, 1, 2}}, {Name: "", Lines: []int{3}}, {Name: "a b", Eras: eras[2:]}}, Links: []document.Link{{Target: "", Name: "Q", Line: 9}, {Target: "A", Name: "\"", Line: 10}}}
	s := made(t, []names.Doc{{Name: "a", D: d}})
	is(t, "a zone with an era that no text says", fmt.Sprintf("%q", graph.Closure(s, "A")), `["Zone A 0:00 - X 2000" "" "0:00 - Z"]`)
	is(t, "a zone without an era", fmt.Sprintf("%q", graph.Closure(s, "")), `[]`)
	is(t, "a zone without a right name", fmt.Sprintf("%q", graph.Closure(s, "a b")), `[""]`)
	is(t, "links", fmt.Sprintf("%q %q %q", graph.Closure(s, "Q"), graph.Linked(s, ""), graph.Closure(s, "\"")), `[""] ["Q"] ["" "Zone A 0:00 - X 2000" "" "0:00 - Z"]`)
	other := slices.Clone(eras)
	other[1].Format = "Y Z"
	of := func(l []api.Era) *names.Space {
		return made(t, []names.Doc{{Name: "a", D: document.Doc{Zones: []document.Zone{{Name: "A", Eras: l}}}}})
	}
	is(t, "Changed, by what has no text", graph.Changed(of(eras), of(other)), "[]")
	is(t, "Changed, by how much has none", graph.Changed(of(eras), of(slices.Insert(other, 1, api.Era{Kind: 9}))), "[A]")
	is(t, "Changed, by what has one on one side", graph.Changed(of(eras), of(eras[2:])), "[A]")
	is(t, "Changed, by a zone without an era", fmt.Sprintf("%q", graph.Changed(of(nil), nil)), `["A"]`)
}

// Of nil, and what is shared.

func TestOfNil(t *testing.T) {
	var s *names.Space
	for _, name := range []string{"", "A", "\xff", strings.Repeat("x", 1000)} {
		empty(t, "of nil "+name, graph.Uses(s, name), graph.Users(s, name), graph.Linked(s, name))
		is(t, "Closure of nil", fmt.Sprintf("%q", graph.Closure(s, name)), `["undefined"]`)
		for _, other := range []*names.Space{{}, made(t, nil)} {
			is(t, "of a space of nothing", answers(other, []string{name}), answers(s, []string{name}))
		}
	}
	w := of(t, "Zone B 0 - X\nZone A 0 R X\nLink A C")
	empty(t, "Changed from nothing to nothing", graph.Changed(s, s), graph.Changed(s, &names.Space{}), graph.Changed(made(t, nil), s))
	is(t, "Changed from nil, and to it", fmt.Sprint(graph.Changed(s, w.s), graph.Changed(w.s, s)), "[A B] [A B]")
	empty(t, "Changed from nil to no zone", graph.Changed(s, of(t, "Link A B\nfoo").s), graph.Changed(of(t, rule("R", "S")).s, s))
}

// TestNamesThatAreNone: whatever is asked for.
func TestNamesThatAreNone(t *testing.T) {
	w := of(t, rule("R", "S")+"Zone A/B 0 R X\nLink A/B C\nLink D D\nLink none E")
	for _, name := range []string{"", " ", "A", "A/", "/B", "A/B ", "A/b", "a/b", "-", "\x00", "\xff", "R", "Rule", "undefined", "cycle", "bad", strings.Repeat("A", 31), "A/B\n"} {
		empty(t, fmt.Sprintf("of %q", name), graph.Uses(w.s, name), graph.Linked(w.s, name))
		is(t, fmt.Sprintf("Closure of %q", name), graph.Closure(w.s, name), "[undefined]")
	}
	for _, name := range []string{"", " ", "A/B", "C", "r", "R ", "RR", "-", "\xff", "0", "1:00"} {
		empty(t, fmt.Sprintf("Users of %q", name), graph.Users(w.s, name))
	}
}

const source = "Zone A 0 R X 2000\n1 Q Y\nLink A B\nLink B C\nLink Q Q\nLink none N\nZone A 0 - Y\nfoo\n"

func sourceWorld(t *testing.T) world {
	t.Helper()
	return of(t, source+rules("R", 0, 3), "Zone D 0 R X\nLink A E\n"+rules("Q", 20, 25))
}

// TestAnswersShareNothing: what a caller does with an answer, and with the room behind it, is seen nowhere else.
func TestAnswersShareNothing(t *testing.T) {
	w, other := sourceWorld(t), of(t, "Zone A 0 - X\nZone F 0 - X")
	l := w.asked()
	want, changes := answers(w.s, l), fmt.Sprint(graph.Changed(w.s, other.s))
	is(t, "what has changed", changes, "[A D F]")
	first := graph.Closure(w.s, "A")
	kept := fmt.Sprint(first)
	for range 2 {
		for _, name := range l {
			for _, answer := range [][]string{graph.Uses(w.s, name), graph.Users(w.s, name), graph.Linked(w.s, name), graph.Closure(w.s, name)} {
				spoil(answer)
			}
		}
		spoil(graph.Changed(w.s, other.s))
		spoil(graph.Changed(w.s, nil))
	}
	is(t, "answers, when others are changed", answers(w.s, l), want)
	is(t, "answers of the same texts", answers(sourceWorld(t).s, l), want)
	is(t, "an answer, when others are changed", first, kept)
	is(t, "Changed, when another answer is changed", graph.Changed(w.s, other.s), changes)
	is(t, "names, when answers are changed", fmt.Sprint(w.s.Names(), other.s.Names()), "[A B C D E N Q] [A F]")
	w.asTheModel(t, "the source, when answers are changed")
}

// TestAnswersHangOnSpacesAlone: not on what was asked ahead, nor on how often, nor on how a map is gone through.
func TestAnswersHangOnSpacesAlone(t *testing.T) {
	w, other := sourceWorld(t), of(t, "Zone F 0 - X\nZone D 0 - X")
	l := w.asked()
	want := answers(w.s, l)
	for _, name := range slices.Backward(l) {
		is(t, "answers of "+name, answers(w.s, []string{name}), answers(sourceWorld(t).s, []string{name}))
	}
	for range 50 {
		is(t, "answers of one space", answers(w.s, l), want)
		is(t, "answers of the same texts", answers(sourceWorld(t).s, l), want)
		is(t, "Changed of two spaces", graph.Changed(w.s, other.s), "[A D F]")
	}
}

func TestExample(t *testing.T) {
	zones := "Zone P 1:00 EU CE%sT\nZone O 0 - UTC\nZone M 2:00 1:00 X 2000\n1:00 EU CE%sT\nLink P Q"
	a, b := of(t, march+"\n"+zones), of(t, march+"\n"+october+"\n"+zones)
	is(t, "a rule more of EU", fmt.Sprint(graph.Changed(a.s, b.s), graph.Users(b.s, "EU")), "[M P] [M P]")

	// those of the whole
	EU := march + "\n" + october + "\n"
	whole := of(t, EU+"Zone P 1:00 EU CE%sT")
	for i, s := range document.Lines(whole.texts[0]) {
		l := document.Lines(whole.texts[0])
		l[i] = s + " # note"
		is(t, "a note behind line "+fmt.Sprint(i), graph.Changed(whole.s, of(t, strings.Join(l, "\n")).s), "[]")
	}
	is(t, "another Save", graph.Changed(whole.s, of(t, strings.Replace(whole.texts[0], "1:00 S", "0:30 S", 1)).s), "[P]")
	linked := of(t, EU+"Zone P 1:00 EU CE%sT\nLink P Q")
	is(t, "a link to P", fmt.Sprintf("%v %v %s", graph.Changed(whole.s, linked.s), graph.Linked(linked.s, "P"), strings.Join(graph.Closure(linked.s, "Q"), "|")), "[] [Q] Link P Q|Zone P 1:00 EU CE%sT|"+march+"|"+october)
	cycle := of(t, EU+"Link Q P\nLink P Q")
	is(t, "links in a ring", fmt.Sprint(graph.Changed(linked.s, cycle.s), graph.Closure(cycle.s, "P"), graph.Closure(cycle.s, "Q"), graph.Linked(cycle.s, "P")), "[P] [cycle] [cycle] []")
}

// TestSpacesStayAsTheyWere: asking changes nothing in a space.
func TestSpacesStayAsTheyWere(t *testing.T) {
	w := sourceWorld(t)
	tell := func() string {
		var b strings.Builder
		fmt.Fprintln(&b, w.s.Names(), w.s.Diags())
		for _, name := range w.asked() {
			z, at, _ := w.s.Zone(name)
			rules, places := w.s.Rules(name)
			end, way, k := w.s.Resolve(name)
			fmt.Fprintln(&b, name, z, at, rules, places, end, way, int(k), w.s.Bad(name))
		}
		return b.String()
	}
	want := tell()
	answers(w.s, w.asked())
	graph.Changed(w.s, of(t, "Zone A 0 - X").s)
	is(t, "a space that was asked", tell(), want)
}

// TestClosureIsRead: each of its lines but bad is read as a line again, and shown as it is.
func TestClosureIsRead(t *testing.T) {
	w := sourceWorld(t)
	for _, name := range w.asked() {
		for i, s := range graph.Closure(w.s, name) {
			if i == 0 && slices.Contains([]string{"bad", "undefined", "cycle"}, s) {
				continue
			}
			again, k := line.Show(line.Parse(s))
			is(t, "a line of the Closure of "+name, fmt.Sprint(again, int(k)), s+"0")
		}
	}
}
