package names_test

import (
	"fmt"
	"math"
	"math/rand"
	"slices"
	"strings"
	"testing"

	"noonmark/api"
	"noonmark/document"
	"noonmark/names"
)

// docs: documents a, b, .. of these texts.
func docs(texts ...string) []names.Doc {
	var l []names.Doc
	for i, s := range texts {
		l = append(l, names.Doc{Name: string(rune('a' + i)), D: document.Parse(s)})
	}
	return l
}

func made(t *testing.T, l []names.Doc) *names.Space {
	t.Helper()
	s, k := names.Make(l)
	if k != api.OK || s == nil {
		t.Fatalf("Make: kind %d", int(k))
	}
	return s
}

func of(t *testing.T, texts ...string) *names.Space {
	t.Helper()
	return made(t, docs(texts...))
}

// named: documents without a line, of these names.
func named(l ...string) []names.Doc {
	var all []names.Doc
	for _, name := range l {
		all = append(all, names.Doc{Name: name})
	}
	return all
}

// rule: the text of one, which is another one by its letter.
func rule(name string, from, to any, letter string) string {
	return fmt.Sprintf("Rule %s %v %v - Mar lastSun 1:00u 1:00 %s\n", name, from, to, letter)
}

// rules: n of them, with letters from that number on.
func rules(name string, from, n int) string {
	var s string
	for i := range n {
		s += rule(name, 2000, "only", fmt.Sprint(from+i))
	}
	return s
}

// told: diags as text: "a0 12, b3:7 5".
func told(l []api.Diag) string {
	var all []string
	for _, x := range l {
		at := fmt.Sprint(x.Doc, x.Line)
		if x.Col != 0 {
			at += fmt.Sprint(":", x.Col)
		}
		all = append(all, fmt.Sprint(at, " ", int(x.K)))
	}
	return strings.Join(all, ", ")
}

// stands: what a name stands for, as text: "zone a0 0,1", "link to B a2".
func stands(s *names.Space, name string) string {
	z, zoneAt, isZone := s.Zone(name)
	target, linkAt, isLink := s.Link(name)
	switch {
	case isZone && isLink:
		return "both"
	case isZone:
		return fmt.Sprintf("zone %s%d %v", zoneAt.Doc, zoneAt.Line, z.Lines)
	case isLink:
		return fmt.Sprintf("link to %s %s%d", target, linkAt.Doc, linkAt.Line)
	}
	return "nothing"
}

// came: what a name comes to, as text: "Z by Y,Z", "kind 12".
func came(s *names.Space, name string) string {
	end, way, k := s.Resolve(name)
	if k != api.OK {
		if end != "" || len(way) != 0 {
			return fmt.Sprint(end, way, int(k))
		}
		return fmt.Sprint("kind ", int(k))
	}
	return end + " by " + strings.Join(way, ",")
}

// letters: those of the rules of a name, each with its place: "1a0 2b3".
func letters(s *names.Space, name string) string {
	l, places := s.Rules(name)
	if len(l) != len(places) {
		return fmt.Sprint(len(l), " rules, ", len(places), " places")
	}
	var all []string
	for i, r := range l {
		all = append(all, fmt.Sprint(r.Letter, places[i].Doc, places[i].Line))
	}
	return strings.Join(all, " ")
}

// P1201: Make.

func TestMake(t *testing.T) {
	is(t, "MaxDocs", api.MaxDocs, 4)
	for _, x := range []struct {
		names string
		k     api.Kind
	}{
		// how many
		{"a", 0}, {"a b", 0}, {"a b c", 0}, {"a b c d", 0}, {"a b c d e", 1}, {"a b c d e f", 1}, {strings.TrimSpace(strings.Repeat("a ", 100)), 1},
		// two of one name
		{"a a", 1}, {"a a b", 1}, {"a b b", 1}, {"a b c c", 1}, {"a b a", 1}, {"a a a a", 1}, {"a b c a", 1},
		// names that fall
		{"b a", 1}, {"a c b", 1}, {"b a c", 1}, {"a b d c", 1}, {"d c b a", 1}, {"b c d a", 1}, {"ab a", 1}, {"b aa", 1},
		// both
		{"e d c b a", 1}, {"a b c d d", 1},
		// names that rise by a byte alone
		{"a aa", 0}, {"a a\x00", 0}, {"a\x00 a", 1}, {"a\x00 a\x01", 0}, {"aab aac", 0}, {"aac aab", 1}, {"aba abb", 0}, {"aab aba", 0},
		{"Z a", 0}, {"a Z", 1}, {"A B a b", 0}, {"A a B b", 1}, {"10 9", 0}, {"9 10", 1}, {"a_ aa", 0}, {"-a a", 0},
		{"z é", 0}, {"é z", 1}, {"\x7f \x80", 0}, {"\x80 \x7f", 1}, {"\xfe \xff", 0}, {"\xff \xfe", 1}, {"\uffff \U00010000", 0},
		{"\x00 \x01 \x02 \x03", 0}, {strings.Repeat("a", 5000) + " " + strings.Repeat("a", 5001), 0},
	} {
		s, k := names.Make(named(strings.Split(x.names, " ")...))
		is(t, fmt.Sprintf("Make of documents %.80q", x.names), int(k), int(x.k))
		is(t, fmt.Sprintf("Make of documents %.80q: is it one", x.names), s != nil, x.k == 0)
	}
	for _, l := range [][]string{{""}, {"", "a"}, {"", "\x00"}, {" "}} {
		_, k := names.Make(named(l...))
		is(t, fmt.Sprintf("Make of documents %q", l), int(k), 0)
	}
	for _, l := range [][]string{{"", ""}, {"a", ""}, {"", "a", ""}} {
		s, k := names.Make(named(l...))
		is(t, fmt.Sprintf("Make of documents %q", l), int(k), 1)
		is(t, fmt.Sprintf("Make of documents %q: none", l), s == nil, true)
	}
}

// TestMakeOfEveryPairOfBytes: names rise by bytes, not by letters.
func TestMakeOfEveryPairOfBytes(t *testing.T) {
	for a := range 256 {
		for b := range 256 {
			x, y := "n"+string([]byte{byte(a)}), "n"+string([]byte{byte(b)})
			if _, k := names.Make(named("m", x, y+"z")); (k == api.OK) != (a <= b) || k != api.OK && k != api.BadArg {
				t.Fatalf("Make of m, %q, %q: kind %d", x, y+"z", int(k))
			}
		}
	}
}

func TestMakeOfNoDocument(t *testing.T) {
	for _, l := range [][]names.Doc{nil, {}, make([]names.Doc, 0, 9), named("a"), named("a", "b", "c", "d"), docs("# note\n\n")} {
		s := made(t, l)
		zero(t, "Names of nothing", s.Names())
		zero(t, "Diags of nothing", s.Diags())
		for _, name := range []string{"", "a", "A", "\xff"} {
			is(t, fmt.Sprintf("of nothing %q", name), stands(s, name)+" "+came(s, name), "nothing kind 12")
			is(t, fmt.Sprintf("Bad of nothing %q", name), s.Bad(name), true)
			r, p := s.Rules(name)
			zero(t, "Rules of nothing "+name, r, p)
		}
	}
}

// TestMakeTakesWhatIsWrong: BadArg is for the documents' names alone.
func TestMakeTakesWhatIsWrong(t *testing.T) {
	s := of(t, "foo\nLink A A\nZone Z 0 - X 2000", "Zone Z 0 - X\n1 - Y", "Link Q P", strings.Repeat("\"\n", 500))
	is(t, "its names", s.Names(), []string{"A", "P", "Z"})
	is(t, "how many diags", len(s.Diags()), 1+1+1+1+1+1+500)
}

// P1202: Names, Zone, Link, Rules.

func TestNames(t *testing.T) {
	for _, x := range []struct {
		texts []string
		want  string
	}{
		{[]string{"Zone A 0 - X"}, "A"}, {[]string{"Link B A"}, "A"}, {[]string{"Link A B", ""}, "B"}, {[]string{rule("R", 2000, "only", "S")}, ""},
		{[]string{"Zone C 0 - X\nZone B 0 - X\nZone A 0 - X"}, "A B C"}, {[]string{"Link X C\nZone B 0 - X\nLink B A"}, "A B C"},
		{[]string{"Zone A 0 - X\nZone A 0 - X\nLink B A\nLink C A"}, "A"}, {[]string{"Zone A 0 - X", "Link B A", "Zone A 1 - Y"}, "A"},
		{[]string{"Zone C 0 - X", "Link C B", "Zone A 0 - X", "Zone D 0 - X"}, "A B C D"},
		{[]string{"Zone b 0 - X\nZone B 0 - X\nZone a 0 - X\nZone A 0 - X\nZone Aa 0 - X\nZone A/B 0 - X\nZone A_B 0 - X\nZone A-B 0 - X\nZone A+1 0 - X"}, "A A+1 A-B A/B A_B Aa B a b"},
		{[]string{"Zone A 0 - X\nZone A 0"}, "A"}, {[]string{"Zone A 0 R X"}, "A"}, {[]string{"Link A A"}, "A"},
	} {
		is(t, fmt.Sprintf("Names of %q", x.texts), strings.Join(of(t, x.texts...).Names(), " "), x.want)
	}
}

func TestWhatANameStandsFor(t *testing.T) {
	for _, x := range []struct {
		texts []string
		want  string // of A
	}{
		{[]string{""}, "nothing"}, {[]string{"Zone B 0 - X\nLink A B"}, "nothing"}, {[]string{"Zone a 0 - X"}, "nothing"}, {[]string{rule("A", 2000, "only", "S")}, "nothing"},
		{[]string{"Zone A 0 - X"}, "zone a0 [0]"}, {[]string{"\n\nZone A 0 - X 2000\n# note\n1 - Y 2001\n\n2 - Z"}, "zone a2 [2 4 6]"},
		{[]string{"Link B A"}, "link to B a0"}, {[]string{"\n\nLink B A"}, "link to B a2"}, {[]string{"Link A A"}, "link to A a0"},
		// a zone and a link, in one document and in two
		{[]string{"Zone A 0 - X\nLink B A"}, "zone a0 [0]"}, {[]string{"Link B A\nZone A 0 - X"}, "link to B a0"},
		{[]string{"Zone A 0 - X", "Link B A"}, "zone a0 [0]"}, {[]string{"Link B A", "Zone A 0 - X"}, "link to B a0"},
		{[]string{"\n\n\nZone A 0 - X", "Link B A"}, "zone a3 [3]"}, {[]string{"\n\n\nLink B A", "Zone A 0 - X"}, "link to B a3"},
		{[]string{"", "Link B A\nZone A 0 - X", "Zone A 0 - X"}, "link to B b0"}, {[]string{"", "", "Zone A 0 - X", "Link B A"}, "zone c0 [0]"},
		{[]string{"Zone B 0 - X\nLink C A\nZone A 0 - X\nLink B A"}, "link to C a1"},
		// twice the same
		{[]string{"Zone A 0 - X 2000\n0 - Y\nZone A 0 - X"}, "zone a0 [0 1]"}, {[]string{"Zone A 0 - X\nZone A 0 - X 2000\n0 - Y"}, "zone a0 [0]"},
		{[]string{"Link B A\nLink C A"}, "link to B a0"}, {[]string{"Link C A\nLink B A"}, "link to C a0"},
		{[]string{"Link B A", "Link C A"}, "link to B a0"}, {[]string{"", "\nLink C A", "Link B A"}, "link to C b1"}, {[]string{"", "Zone A 0 - X", "Zone A 1 - Y", "Zone A 2 - Z"}, "zone b0 [0]"},
		// what is wrong stands for nothing
		{[]string{"Zone A 0 -\nLink B A"}, "link to B a1"}, {[]string{"Zone A 0 - X 2000\nLink B A"}, "zone a0 [0]"},
	} {
		is(t, fmt.Sprintf("A of %q", x.texts), stands(of(t, x.texts...), "A"), x.want)
	}
}

// TestZoneIsWhole: all that its document says of it.
func TestZoneIsWhole(t *testing.T) {
	l := docs("Link A Q", rule("R", 2000, "max", "S")+"Zone A/B -1:00 R X%sT 2000 Mar lastSun 1:00u\n  2:30 1:00 +%z 2001\n\n  0 - A/B\nZone C 1 - Y")
	s := made(t, l)
	for i, name := range []string{"A/B", "C"} {
		z, at, ok := s.Zone(name)
		is(t, "Zone "+name, fmt.Sprintf("%+v %v %v", z, at, ok), fmt.Sprintf("%+v {b %d} true", l[1].D.Zones[i], []int{1, 5}[i]))
		is(t, "eras of "+name, len(z.Eras), []int{3, 1}[i])
	}
	for _, name := range []string{"Q", "", "A", "a/b", "R", "A/B ", "none"} {
		z, at, ok := s.Zone(name)
		zero(t, "Zone "+name, z.Name, z.Eras, z.Lines, at, ok)
	}
	for _, name := range []string{"A/B", "C", "", "A", "q", "R"} {
		target, at, ok := s.Link(name)
		zero(t, "Link "+name, target, at, ok)
	}
}

func TestRules(t *testing.T) {
	R := func(letter string) string { return rule("R", 2000, "only", letter) }
	for _, x := range []struct {
		texts []string
		want  string // of R
	}{
		{[]string{""}, ""}, {[]string{rule("Q", 2000, "only", "a")}, ""}, {[]string{rule("r", 2000, "only", "a")}, ""}, {[]string{"Zone R 0 - X\nLink R Q"}, ""},
		{[]string{R("1")}, "1a0"}, {[]string{R("1") + R("2") + R("1")}, "1a0 2a1 1a2"}, {[]string{R("2") + rule("Q", 2000, "only", "a") + "\n" + R("1")}, "2a0 1a3"},
		{[]string{"", R("2") + R("1"), "\n" + R("0")}, "2b0 1b1 0c1"}, {[]string{"\n\n\n" + R("1"), R("2"), R("3"), R("4")}, "1a3 2b0 3c0 4d0"},
		{[]string{"Rule R 2000\n" + R("1") + "Rule R 2000 x - Mar 1 0 0 2\n"}, "1a1"},
		// how long they last
		{[]string{rule("R", 1850, 2000, "1") + rule("R", 1849, 2000, "2") + rule("R", 1850, 1999, "3")}, "1a0 3a2"},
		{[]string{rule("R", 1, "max", "1") + rule("R", 1, 151, "2") + rule("R", 1, 152, "3") + rule("R", 1, 9999, "4") + rule("R", 9999, "max", "5")}, "1a0 2a1 5a4"},
		{[]string{rule("R", 9849, 9999, "1") + rule("R", 9848, 9999, "2") + rule("R", 9849, "max", "3") + rule("R", 9848, "max", "4")}, "1a0 3a2 4a3"},
		{[]string{rule("R", 1800, 1999, "1"), rule("R", 1900, 2000, "2")}, "2b0"}, {[]string{rule("R", 1800, 1999, "1"), rule("R", 1800, 2000, "2")}, ""},
	} {
		is(t, fmt.Sprintf("R of %q", x.texts), letters(of(t, x.texts...), "R"), x.want)
	}
}

// firsts: letters and places of n rules, of which the first one has that number and line.
func firsts(doc string, letter, line, n int) string {
	var l []string
	for i := range n {
		l = append(l, fmt.Sprint(letter+i, doc, line+i))
	}
	return strings.Join(l, " ")
}

func TestMaxRules(t *testing.T) {
	is(t, "MaxRules", api.MaxRules, 24)
	for _, x := range []struct {
		texts []string
		want  string
	}{
		{[]string{rules("R", 0, 23)}, firsts("a", 0, 0, 23)}, {[]string{rules("R", 0, 24)}, firsts("a", 0, 0, 24)}, {[]string{rules("R", 0, 25)}, firsts("a", 0, 0, 24)}, {[]string{rules("R", 0, 100)}, firsts("a", 0, 0, 24)},
		// over two documents, and more
		{[]string{rules("R", 0, 12), rules("R", 50, 12)}, firsts("a", 0, 0, 12) + " " + firsts("b", 50, 0, 12)}, {[]string{rules("R", 0, 12), rules("R", 50, 13)}, firsts("a", 0, 0, 12) + " " + firsts("b", 50, 0, 12)},
		{[]string{rules("R", 0, 24), rules("R", 50, 1)}, firsts("a", 0, 0, 24)}, {[]string{rules("R", 0, 25), rules("R", 50, 1)}, firsts("a", 0, 0, 24)}, {[]string{rules("R", 0, 23), rules("R", 50, 2)}, firsts("a", 0, 0, 23) + " 50b0"},
		{[]string{"", rules("R", 0, 8), rules("R", 20, 8), rules("R", 40, 9)}, firsts("b", 0, 0, 8) + " " + firsts("c", 20, 0, 8) + " " + firsts("d", 40, 0, 8)},
		// those that last too long are none of them
		{[]string{rule("R", 1, 152, "x") + rules("R", 0, 24)}, firsts("a", 0, 1, 24)}, {[]string{rules("R", 0, 24) + rule("R", 1, 152, "x")}, firsts("a", 0, 0, 24)},
		{[]string{strings.Repeat(rule("R", 1, 152, "x"), 30) + rules("R", 0, 25)}, firsts("a", 0, 30, 24)}, {[]string{rules("R", 0, 20) + strings.Repeat(rule("R", 1, 152, "x"), 3), rules("R", 50, 7)}, firsts("a", 0, 0, 20) + " " + firsts("b", 50, 0, 4)},
		// another name has its own
		{[]string{rules("Q", 0, 24) + rules("R", 0, 24) + rules("Q", 24, 1) + rules("r", 0, 24)}, firsts("a", 0, 24, 24)},
	} {
		is(t, fmt.Sprintf("R of %q", x.texts), letters(of(t, x.texts...), "R"), x.want)
	}
}

// TestRulesAreWhole: all that their lines say.
func TestRulesAreWhole(t *testing.T) {
	l := docs("Rule EU 1981 max - Mar lastSun 1:00u 1:00 S\nRule EU 1979 1995 - Sep Sun>=24 1:00s 0 -", "Rule EU 1996 only - Oct 31 -2:00 -0:20 CEST")
	all, places := made(t, l).Rules("EU")
	is(t, "Rules of EU", fmt.Sprintf("%+v", all), fmt.Sprintf("%+v", []api.Rule{l[0].D.Rules[0].R, l[0].D.Rules[1].R, l[1].D.Rules[0].R}))
	is(t, "their places", places, "[{a 0} {a 1} {b 0}]")
}

// TestRulesOfAnyYears: years of rules that no text has, up to the bounds of their type.
func TestRulesOfAnyYears(t *testing.T) {
	for _, x := range []struct {
		from, to int
		long     bool
	}{
		{0, 150, false}, {0, 151, true}, {-1, 149, false}, {-1, 150, true}, {-200, -50, false}, {-200, -49, true}, {2000, 1000, false}, {2000, 1849, false}, {2000, -9999, false}, {2000, 0, false},
		{math.MinInt, math.MinInt, false}, {math.MinInt, math.MinInt + 150, false}, {math.MinInt, math.MinInt + 151, true}, {math.MinInt, -1, true}, {math.MinInt, 0, true}, {math.MinInt, math.MaxInt, true}, {-1, math.MaxInt, true}, {0, math.MaxInt, true}, {-2, math.MaxInt - 1, true},
		{math.MaxInt, math.MaxInt, false}, {math.MaxInt - 150, math.MaxInt, false}, {math.MaxInt - 151, math.MaxInt, true}, {math.MaxInt, math.MinInt, false}, {1, math.MinInt, false}, {math.MaxInt, 0, false}, {math.MaxInt, -1, false}, {-2, math.MinInt, false},
		{0, 10000, false}, {math.MinInt, 10000, false}, {math.MaxInt, 10000, false}, {0, 9999, true}, {0, 10001, true}, {9851, 10001, false}, {9850, 10001, true}, {math.MinInt, 9999, true},
		{-1 << 63, -1<<63 + 1<<32, true}, {0, 1 << 32, true}, {0, 1<<32 + 10000, true},
	} {
		d := document.Doc{Rules: []document.Rule{{R: api.Rule{Name: "R", From: x.from, To: x.to}, Line: 7}}}
		s := made(t, []names.Doc{{Name: "a", D: d}})
		got, places := s.Rules("R")
		want, diags := "[{a 7}]", ""
		if x.long {
			want, diags = "[]", "a7 2"
		}
		what := fmt.Sprintf("a rule from %d to %d", x.from, x.to)
		is(t, what, fmt.Sprint(len(got), " at ", places), fmt.Sprint(strings.Count(want, "a"), " at ", want))
		is(t, what+": diags", told(s.Diags()), diags)
	}
}

// P1203: Resolve.

func TestResolve(t *testing.T) {
	for _, x := range []struct {
		texts []string
		want  string // of A
	}{
		{[]string{"Zone A 0 - X"}, "A by A"}, {[]string{"Zone B 0 - X\nLink B A"}, "B by A,B"}, {[]string{"Link B A\nZone B 0 - X"}, "B by A,B"}, {[]string{"Link B A", "Zone B 0 - X"}, "B by A,B"}, {[]string{"Zone B 0 - X", "Link B A"}, "B by A,B"},
		{[]string{"Link B A\nLink C B\nZone C 0 - X"}, "C by A,B,C"}, {[]string{"Zone C 0 - X", "Link C B", "Link B A"}, "C by A,B,C"}, {[]string{"Link D C\nLink C B\nLink B A\nZone D 0 - X"}, "D by A,B,C,D"},
		// what stands for nothing
		{[]string{""}, "kind 12"}, {[]string{"Zone B 0 - X\nLink A B"}, "kind 12"}, {[]string{"Link B A"}, "kind 12"}, {[]string{"Link B A\nLink C B"}, "kind 12"}, {[]string{"Link a A\nZone A/a 0 - X"}, "kind 12"}, {[]string{"Link R A\n" + rule("R", 2000, "only", "S")}, "kind 12"}, {[]string{"Link B A\nZone B 0"}, "kind 12"},
		// links that come back, to the first one and to a later one
		{[]string{"Link A A"}, "kind 13"}, {[]string{"Link B A\nLink A B"}, "kind 13"}, {[]string{"Link B A\nLink C B\nLink A C"}, "kind 13"}, {[]string{"Link B A", "Link A B"}, "kind 13"},
		{[]string{"Link B A\nLink B B"}, "kind 13"}, {[]string{"Link B A\nLink C B\nLink B C"}, "kind 13"}, {[]string{"Link B A\nLink C B\nLink C C"}, "kind 13"}, {[]string{"Link B A\nLink C B\nLink D C\nLink B D"}, "kind 13"},
		// by what a name stands for first
		{[]string{"Link B A\nZone A 0 - X\nZone B 0 - X"}, "B by A,B"}, {[]string{"Zone A 0 - X\nLink A A"}, "A by A"}, {[]string{"Link A A\nZone A 0 - X"}, "kind 13"}, {[]string{"Link B A\nLink A A\nZone B 0 - X"}, "B by A,B"}, {[]string{"Link B A\nZone B 0 - X\nLink A B"}, "B by A,B"}, {[]string{"Link B A\nLink A B\nZone B 0 - X"}, "kind 13"}, {[]string{"Link C A\nLink B A\nZone B 0 - X"}, "kind 12"},
		// it does not ask what is wrong with it
		{[]string{"Zone A 0 R X 2000"}, "A by A"}, {[]string{"Zone B 0 - X\nZone B 0 - X\nLink B A\nLink B A"}, "B by A,B"},
	} {
		is(t, fmt.Sprintf("A of %q", x.texts), came(of(t, x.texts...), "A"), x.want)
	}
}

// chain: n links, L1 to L2 and so on, and a last line.
func chain(n int, last string) document.Doc {
	d := document.Parse(last)
	for i := range n {
		d.Links = append(d.Links, document.Link{Name: fmt.Sprint("L", i), Target: fmt.Sprint("L", i+1), Line: i + 1})
	}
	return d
}

// TestResolveLongWays: many links, of which each is asked for in Diags.
func TestResolveLongWays(t *testing.T) {
	const n = 50000
	end := fmt.Sprint("L", n)
	for _, x := range []struct {
		last string
		k    api.Kind
	}{
		{"Zone " + end + " 0 - X", 0}, {"", 12}, {"Link L0 " + end, 13}, {"Link L40000 " + end, 13}, {"Link " + end + " " + end, 13},
	} {
		s := made(t, []names.Doc{{Name: "a", D: chain(n, x.last)}})
		z, way, k := s.Resolve("L0")
		is(t, "kind of L0 with "+x.last, int(k), int(x.k))
		if x.k != 0 {
			zero(t, "Resolve of L0 with "+x.last, z, way)
			is(t, "diags with "+x.last, len(s.Diags()), n+strings.Count(x.last, "Link"))
			continue
		}
		is(t, "L0", z, end)
		is(t, "its way", fmt.Sprint(len(way), way[0], way[n/2], way[n]), fmt.Sprint(n+1, "L0", "L", n/2, end))
		is(t, "diags", told(s.Diags()), "")
		is(t, "Bad", s.Bad("L0"), false)
	}
}

// P1204: Diags.

func TestDiags(t *testing.T) {
	for _, x := range []struct {
		texts []string
		want  string
	}{
		{[]string{""}, ""}, {[]string{"Zone A 0 - X\nLink A B\nLink B C\n" + rule("R", 2000, "max", "S"), "Zone D 0 R X"}, ""},
		// the documents' own, with their names
		{[]string{"foo\n  Link A\nLink A -"}, "a0 3, a1:2 4, a2:7 5"}, {[]string{"", "foo", "\nfoo", "\n\n foo"}, "b0 3, c1 3, d2:1 3"},
		{[]string{"0 - X"}, "a0 10"}, {[]string{"Zone A 0 - X 2000\nLink A B"}, "a1 21"}, {[]string{"Zone A 0 - X 2000"}, "a0 21"}, {[]string{"Zone A 0 - A 1901" + strings.Repeat("\n0 - B 1902", 7) + "\n0 - C"}, "a8 17"},
		// Duplicate
		{[]string{"Zone A 0 - X\nZone A 0 - X"}, "a1 11"}, {[]string{"Zone A 0 - X\nZone A 0 - Y\nZone A 0 - X"}, "a1 11, a2 11"}, {[]string{"Zone A 0 - X\n\nZone A 0 - X 2000\n0 - X 2001\n0 - Y"}, "a2 11"},
		{[]string{"Zone A 0 - X\nLink A B\nLink A B"}, "a2 11"}, {[]string{"Zone A 0 - X\nLink A A"}, "a1 11"}, {[]string{"Link B A\nZone A 0 - X\nZone B 0 - X"}, "a1 11"},
		{[]string{"\n\nZone A 0 - X", "Zone A 0 - X", "Link A A"}, "b0 11, c0 11"}, {[]string{"Link B A\nZone B 0 - X", "\nZone A 0 - X\nLink A A\nZone B 0 - X"}, "b1 11, b2 11, b3 11"},
		{[]string{"Zone A 0 - X\nZone a 0 - X\n" + rule("A", 2000, "only", "S") + rule("A", 2000, "only", "S")}, ""},
		// too many rules
		{[]string{rules("R", 0, 24)}, ""}, {[]string{rules("R", 0, 25)}, "a24 17"}, {[]string{rules("R", 0, 24) + "\n" + rules("Q", 0, 24) + rules("R", 0, 2)}, "a49 17, a50 17"},
		{[]string{rules("R", 0, 12), rules("R", 0, 12)}, ""}, {[]string{rules("R", 0, 12), rules("R", 0, 13)}, "b12 17"}, {[]string{rules("R", 0, 24), rules("R", 0, 2), "\n" + rules("R", 0, 1)}, "b0 17, b1 17, c1 17"},
		// rules that last too long
		{[]string{rule("R", 1850, 2000, "S")}, ""}, {[]string{rule("R", 1850, 2001, "S")}, "a0 2"}, {[]string{rule("R", 1849, 2000, "S")}, "a0 2"}, {[]string{rule("R", 1, "max", "S")}, ""}, {[]string{rule("R", 1, 9999, "S")}, "a0 2"}, {[]string{rule("R", 9848, 9999, "S") + rule("R", 9848, "max", "S") + rule("R", 9849, 9999, "S")}, "a0 2"},
		// both: one that lasts too long is none too many, and takes nobody's place
		{[]string{rules("R", 0, 24) + rule("R", 1, 152, "S") + rules("R", 0, 1) + rule("R", 1, 152, "S")}, "a24 2, a25 17, a26 2"}, {[]string{rule("R", 1, 152, "S") + rules("R", 0, 24)}, "a0 2"}, {[]string{rules("R", 0, 10) + rule("R", 1, 152, "S"), rules("R", 0, 15) + rule("R", 1, 152, "S")}, "a10 2, b14 17, b15 2"},
		// eras without rules, in any zone
		{[]string{"Zone A 0 R X"}, "a0 12"}, {[]string{"Zone A 0 - X 2000\n0 R X 2001\n0 1:00 X 2002\n\n0 Q X"}, "a1 12, a4 12"}, {[]string{"Zone A 0 r X\n" + rule("R", 2000, "only", "S")}, "a0 12"}, {[]string{"Zone R 0 R X\nLink R Q"}, "a0 12"},
		{[]string{"Zone A 0 - X\nZone A 0 R X"}, "a1 11, a1 12"}, {[]string{"Link B A\nZone A 0 - X 2000\n0 R X\nZone B 0 - X"}, "a1 11, a2 12"},
		{[]string{rule("R", 2000, "only", "S") + "Zone A 0 R X"}, ""}, {[]string{"Zone A 0 R X\n" + rule("R", 2000, "only", "S")}, ""}, {[]string{"Zone A 0 R X", rule("R", 2000, "only", "S")}, ""}, {[]string{rule("R", 2000, "only", "S"), "", "", "Zone A 0 R X"}, ""},
		{[]string{rule("R", 1, 152, "S") + "Zone A 0 R X"}, "a0 2, a1 12"}, {[]string{rule("R", 1, 152, "S") + "Zone A 0 R X", rule("R", 1, 152, "S")}, "a0 2, a1 12, b0 2"}, {[]string{rule("R", 1, 152, "S") + "Zone A 0 R X", rule("R", 1, 151, "S")}, "a0 2"},
		// links that come to no zone
		{[]string{"Link B A"}, "a0 12"}, {[]string{"Link B A\nLink C B"}, "a0 12, a1 12"}, {[]string{"\nLink C B", "\n\nLink B A"}, "a1 12, b2 12"}, {[]string{"Link A A"}, "a0 13"}, {[]string{"Link B A\nLink A B"}, "a0 13, a1 13"}, {[]string{"Link B A\nLink C B\nLink B C\nLink A D"}, "a0 13, a1 13, a2 13, a3 13"}, {[]string{"Link B A", "Link A B"}, "a0 13, b0 13"},
		{[]string{"Link B A\nLink C A\nLink D A"}, "a0 12, a1 11, a2 11"}, {[]string{"Zone B 0 - X\nLink B A\nLink C A"}, "a2 11"}, {[]string{"Zone A 0 - X\nLink A A\nLink C A"}, "a1 11, a2 11"}, {[]string{"Link C A\nZone A 0 - X\nLink A D"}, "a0 12, a1 11, a2 12"}, {[]string{"Link B A\nLink A B\nZone A 0 - X"}, "a0 13, a1 13, a2 11"},
		// several in one place, and twice the same
		{[]string{"Zone B 0 - X 2000\nZone B 0 R X 2000\nLink A A"}, "a1 11, a1 12, a1 21, a2 13, a2 21"}, {[]string{"Zone B 0 R X 2000\nLink C C"}, "a0 12, a1 13, a1 21"}, {[]string{"Zone A 0 - X 2000\nLink C A"}, "a1 11, a1 21"},
		{[]string{"Zone A 0 - X 2000\n" + rule("R", 1, 152, "S")}, "a1 2, a1 21"}, {[]string{rules("R", 0, 24) + "Zone A 0 - X 2000\n" + rules("R", 0, 1)}, "a25 17, a25 21"}, {[]string{"Zone A 0 Q X 2000"}, "a0 12, a0 21"}, {[]string{"Zone A 0 - X 2000\nZone B 0 - X 2000"}, "a1 21"}, {[]string{"Zone A 0 - X 2000\nZone A 0 R X 2000"}, "a1 11, a1 12, a1 21"}, {[]string{"Zone A 0 - A 1901" + strings.Repeat("\n0 - B 1902", 6) + "\n0 R B 1902\n0 - C 1903\nLink B D"}, "a7 12, a8 17, a9 12, a9 21"},
		// the chapter's example
		{[]string{"Link A B\nLink B A"}, "a0 13, a1 13"},
	} {
		is(t, fmt.Sprintf("Diags of %q", x.texts), told(of(t, x.texts...).Diags()), x.want)
		asTheModel(t, fmt.Sprintf("%q", x.texts), docs(x.texts...))
	}
}

// TestDiagsInOrder: by documents, lines, columns, kinds, each once, whoever found them, and in what order.
func TestDiagsInOrder(t *testing.T) {
	d := document.Parse("Zone A 0 R X\nLink A A\nLink B B\n" + rule("Q", 1, 152, "S"))
	d.Diags = []api.Diag{
		{Doc: "else", Line: 3, Col: 0, K: 2}, {Line: 3, Col: 0, K: 1}, {Line: 3, Col: -1, K: 30}, {Line: 3, Col: 1}, {Doc: "a", Line: 0, Col: 0, K: 12}, {Line: 0, Col: 0, K: 12}, {Line: 0, Col: 7, K: 2}, {Line: 0, Col: 10, K: 1}, {Line: 0, Col: 7, K: 2},
		{Line: -1, Col: 3, K: -4}, {Line: math.MinInt, Col: math.MaxInt, K: math.MinInt}, {Line: math.MaxInt, Col: math.MinInt, K: math.MaxInt}, {Line: math.MinInt, Col: math.MaxInt, K: math.MaxInt}, {Line: 10, K: 3}, {Line: 9, K: 3},
	}
	s := made(t, []names.Doc{{Name: "a b", D: document.Doc{Diags: []api.Diag{{Line: 5, K: 5}, {Doc: "z", Line: 5, K: 5}}}}, {Name: "c", D: d}, {Name: "cc", D: document.Parse("foo")}})
	least, most := math.MinInt, math.MaxInt
	is(t, "Diags", s.Diags(), []api.Diag{
		{Doc: "a b", Line: 5, K: 5},
		{Doc: "c", Line: least, Col: most, K: api.Kind(least)}, {Doc: "c", Line: least, Col: most, K: api.Kind(most)}, {Doc: "c", Line: -1, Col: 3, K: -4},
		{Doc: "c", Line: 0, K: 12}, {Doc: "c", Line: 0, Col: 7, K: 2}, {Doc: "c", Line: 0, Col: 10, K: 1}, {Doc: "c", Line: 1, K: 11}, {Doc: "c", Line: 2, K: 13},
		{Doc: "c", Line: 3, Col: -1, K: 30}, {Doc: "c", Line: 3, K: 1}, {Doc: "c", Line: 3, K: 2}, {Doc: "c", Line: 3, Col: 1}, {Doc: "c", Line: 9, K: 3}, {Doc: "c", Line: 10, K: 3}, {Doc: "c", Line: most, Col: least, K: api.Kind(most)},
		{Doc: "cc", Line: 0, K: 3},
	})
}

// TestErasOfOtherKinds: just those of Kind 2 go by rules, whatever name stands in others.
func TestErasOfOtherKinds(t *testing.T) {
	for _, kind := range []int{math.MinInt, -1, 0, 1, 2, 3, 1 << 32, 1<<32 + 2, math.MaxInt} {
		d := document.Doc{Zones: []document.Zone{{Name: "A", Eras: []api.Era{{Kind: kind, Rules: "R"}}, Lines: []int{4}}}}
		over := document.Parse(rule("R", 1, 152, "S"))
		for i, l := range [][]names.Doc{{{Name: "a", D: d}}, {{Name: "a", D: d}, {Name: "b", D: over}}} {
			s := made(t, l)
			want := []string{"", "b0 2"}[i]
			if kind == 2 {
				want = []string{"a4 12", "a4 12, b0 2"}[i]
			}
			is(t, fmt.Sprintf("an era of kind %d", kind), fmt.Sprint(told(s.Diags()), s.Bad("A")), fmt.Sprint(want, kind == 2))
		}
	}
	s := made(t, []names.Doc{{Name: "a", D: document.Doc{Zones: []document.Zone{{Name: "A", Eras: []api.Era{{Kind: 2}}, Lines: []int{4}}}, Rules: []document.Rule{{Line: 9}}}}})
	is(t, "rules without a name", fmt.Sprint(told(s.Diags()), s.Bad("A")), "false")
}

// P1205: Bad.

func TestBad(t *testing.T) {
	R := rule("R", 2000, "max", "S")
	for _, x := range []struct {
		texts []string
		want  bool // of A
	}{
		{[]string{"Zone A 0 - X"}, false}, {[]string{"Zone A 0 R X 2000\n0 1:00 X 2001\n0 R X\n" + R}, false}, {[]string{"Zone B 0 R X\n" + R, "Link B A"}, false}, {[]string{"Link B A\nLink C B\nZone C 0 - X"}, false},
		// what comes to no zone
		{[]string{""}, true}, {[]string{"Zone B 0 - X"}, true}, {[]string{"Link B A"}, true}, {[]string{"Link A A"}, true}, {[]string{"Link B A\nLink A B"}, true}, {[]string{"Link B A\nLink C B\nLink B C"}, true}, {[]string{"Zone A 0"}, true}, {[]string{R}, true},
		// the first line of a zone, a further one
		{[]string{"Zone A 0 R X"}, true}, {[]string{"Zone A 0 - X 2000"}, true}, {[]string{"Zone B 0 - X 2000\nZone A 0 - X"}, true}, {[]string{"Zone A 0 - X 2000\n0 R X"}, true}, {[]string{"Zone A 0 - X 2000\n0 - X 2001\n0 R X"}, true}, {[]string{"Zone A 0 - X 2000\n0 R X 2001\n0 - X"}, true}, {[]string{"Zone A 0 - X 2000\n0 - X 2001"}, true},
		// lines beside them
		{[]string{"foo\nZone A 0 - X\nfoo\n0 - X"}, false}, {[]string{"Zone A 0 - X 2000\nfoo\n0 - Y"}, false}, {[]string{"Zone A 0 - X\n0 - Y"}, false}, {[]string{"Zone A 0 - X 2000\n\n1 - Y\nfoo"}, false}, {[]string{"Zone A 0 - X\nZone B 0 R X", "foo", "Link Q Q"}, false}, {[]string{"\nZone A 0 - X\n\n", "Zone B 0 - X\nfoo\nfoo"}, false},
		{[]string{"Zone A 0 - X 2000\nZone B 0 - X"}, false}, {[]string{"Zone A 0 - A 1901" + strings.Repeat("\n0 - B 1902", 7) + "\n0 - C"}, false},
		// a name that is there twice: the first one counts
		{[]string{"Zone A 0 - X\nZone A 0 R X"}, false}, {[]string{"Zone A 0 R X\nZone A 0 - X"}, true}, {[]string{"Zone A 0 - X\nLink B A"}, false}, {[]string{"Link B A\nZone A 0 - X"}, true}, {[]string{"Zone A 0 - X", "Zone A 0 - X 2000"}, false}, {[]string{"Zone B 0 - X\nLink B A\nLink C A"}, false}, {[]string{"Link B A\nZone A 0 R X\nZone B 0 - X"}, false},
		// a line of its rules
		{[]string{"Zone B 0 - X 2000\n" + R + "Zone A 0 R X"}, true}, {[]string{"Zone B 0 - X 2000\n" + R + "Zone A 0 - X"}, false}, {[]string{"Zone A 0 R X", "Zone B 0 - X 2000\n" + R}, true}, {[]string{"Zone A 0 - X 2000\n0 - X 2001\n0 R X 2002\n0 - X", R + "Zone B 0 - X 2000\n" + R}, true}, {[]string{"Zone A 0 R X\n" + R + "Rule R 2000\n"}, false},
		{[]string{"Zone A 0 Q X 2000\n0 R X\n" + rule("Q", 2000, "only", "S"), "Zone B 0 - X 2000\n" + R}, true}, {[]string{"Zone A 0 Q X\n" + rule("Q", 2000, "only", "S"), "Zone B 0 R X 2000\n" + R}, false},
		// a rule that is one too many, or lasts too long
		{[]string{"Zone A 0 R X\n" + rules("R", 0, 24)}, false}, {[]string{"Zone A 0 R X\n" + rules("R", 0, 25)}, true}, {[]string{"Zone A 0 R X\n" + rules("R", 0, 12), rules("R", 0, 12)}, false}, {[]string{"Zone A 0 R X\n" + rules("R", 0, 12), rules("R", 0, 13)}, true}, {[]string{"Zone A 0 - X\n" + rules("R", 0, 25)}, false}, {[]string{"Zone A 0 Q X\n" + rules("R", 0, 25) + rules("Q", 0, 1)}, false},
		{[]string{"Zone A 0 R X\n" + rule("R", 1850, 2000, "S")}, false}, {[]string{"Zone A 0 R X\n" + R + rule("R", 1850, 2001, "S")}, true}, {[]string{rule("R", 1850, 2001, "S"), "Zone A 0 - X 2000\n0 R X", R}, true}, {[]string{"Zone A 0 - X\n" + rule("R", 1850, 2001, "S")}, false}, {[]string{"Zone A 0 R X\n" + rule("R", 1850, 2001, "S")}, true},
		// its links
		{[]string{"Zone B 0 - X\nLink B A"}, false}, {[]string{"Zone B 0 R X\nLink B A"}, true}, {[]string{"Zone B 0 - X\nZone C 0 - X 2000\nLink B A"}, true}, {[]string{"Zone D 0 - X\nZone C 0 - X 2000\nLink D B\nLink B A"}, true}, {[]string{"Zone D 0 - X\nLink D B\nZone C 0 - X 2000\nLink B A"}, true}, {[]string{"Link D B\nLink B A", "Zone C 0 - X 2000\nZone D 0 - X"}, true}, {[]string{"Link D B\nLink B A", "Zone C 0 R X 2000\n" + R + "Zone D 0 R X"}, true},
		{[]string{"Zone A 0 - X\nZone C 0 - X 2000\nLink A B"}, false}, {[]string{"Zone B 0 - X\nLink B A\nLink C D"}, false},
	} {
		is(t, fmt.Sprintf("Bad of A of %q", x.texts), of(t, x.texts...).Bad("A"), x.want)
		asTheModel(t, fmt.Sprintf("%q", x.texts), docs(x.texts...))
	}
}

// TestBadHoldsToPlaces: a diag in a line of that number in another document hurts nobody.
func TestBadHoldsToPlaces(t *testing.T) {
	at := func(doc, line int) *names.Space {
		l := docs("Link B A\nLink C B", "Zone C 0 R X 2000\n\n0 - Y", rule("R", 2000, "max", "S"), "")
		l[doc].D.Diags = append(l[doc].D.Diags, api.Diag{Line: line, Col: 40, K: 99})
		return made(t, l)
	}
	hurt := []string{"a0 A", "a1 AB", "b0 ABC", "b2 ABC", "c0 ABC"}
	for doc := range 4 {
		for line := range 4 {
			var got string
			for _, name := range []string{"A", "B", "C"} {
				if at(doc, line).Bad(name) {
					got += name
				}
			}
			where := fmt.Sprint(string(rune('a'+doc)), line, " ")
			want := ""
			for _, x := range hurt {
				if s, ok := strings.CutPrefix(x, where); ok {
					want = s
				}
			}
			is(t, "what a diag hurts in "+where, got, want)
		}
	}
}

// P1206: laws, and all promises together.

// followed: does a name come to a zone, by its links alone?
func followed(s *names.Space, name string) bool {
	for range 1 + len(s.Names()) {
		target, _, ok := s.Link(name)
		if !ok {
			_, _, isZone := s.Zone(name)
			return isZone
		}
		name = target
	}
	return false
}

func lawful(t *testing.T, what string, l []names.Doc) {
	t.Helper()
	s := made(t, l)
	for _, name := range asked(l) {
		z, way, k := s.Resolve(name)
		if (k == api.OK) != followed(s, name) {
			t.Fatalf("%s: %q has kind %d, though its links say another thing", what, name, int(k))
		}
		if k == api.OK && (way[0] != name || way[len(way)-1] != z) {
			t.Fatalf("%s: %q comes to %q by %q", what, name, z, way)
		}
	}
}

// texts: of lines, by letters; a | ends a document.
var texts = map[rune]string{
	'A': "Zone A 0 - X", 'B': "Zone B 0 R Y", 'C': "Zone C 0 - X 2000\n1 R Y", 'O': "Zone A 0 - X 2000",
	'k': "Link B A", 'l': "Link A B", 'm': "Link C B", 'o': "Link A A", 'p': "Link B C",
	'r': "Rule R 2000 only - Jan 1 0 0 -", 'q': "Rule R 1800 1951 - Jan 1 0 1 S", 'x': " 0 - Y",
}

func docsOf(script string) []names.Doc {
	var l []string
	for _, part := range strings.Split(script, "|") {
		var s string
		for _, c := range part {
			s += texts[c] + "\n"
		}
		l = append(l, s)
	}
	return docs(l...)
}

// everyScript calls f with each text of at most n of these letters.
func everyScript(n int, letters string, f func(script string)) {
	f("")
	if n == 0 {
		return
	}
	for _, c := range letters {
		everyScript(n-1, letters, func(rest string) { f(string(c) + rest) })
	}
}

func TestEveryShortSource(t *testing.T) {
	check := func(script string) {
		if strings.Count(script, "|") < 4 {
			l := docsOf(script)
			asTheModel(t, script, l)
			lawful(t, script, l)
		}
	}
	everyScript(4, "ABClrqx|", check)
	everyScript(3, "ABCOklmoprqx|", check)
	everyScript(5, "Aklmop|", check)
}

// chanceDocs: documents of lines by chance.
func chanceDocs(chance *rand.Rand, lines int) []names.Doc {
	name := func() string { return string(rune('A' + chance.Intn(6))) }
	rules := func() string { return []string{"-", "1:00", "R", "Q", "P"}[chance.Intn(5)] }
	var l []string
	for range 1 + chance.Intn(4) {
		var s string
		for range chance.Intn(lines) {
			from := 1800 + chance.Intn(200)
			s += []string{
				fmt.Sprintf("Zone %s 0 %s X\n", name(), rules()),
				fmt.Sprintf("Zone %s 0 %s X 2000\n0 %s Y 2001\n0 - Z\n", name(), rules(), rules()),
				fmt.Sprintf("Zone %s 0 %s X 2000\n", name(), rules()),
				fmt.Sprintf("0 %s X\n", rules()),
				fmt.Sprintf("Link %s %s\n", name(), name()),
				fmt.Sprintf("Rule %s %d %d - Jan 1 0 0 %d\n", "RQP"[chance.Intn(3):][:1], from, from+50+chance.Intn(102), chance.Intn(1000)),
				fmt.Sprintf("Rule R %d max - Jan 1 0 0 %d\n", from, chance.Intn(1000)),
				"# note\n", "foo\n", strings.Repeat("Rule Q 2000 only - Jan 1 0 0 -\n", chance.Intn(10)),
			}[chance.Intn(10)]
		}
		l = append(l, s)
	}
	return docs(l...)
}

func TestSourcesByChance(t *testing.T) {
	chance := rand.New(rand.NewSource(1206))
	for i := range 3000 {
		l := chanceDocs(chance, 4+i%20)
		asTheModel(t, fmt.Sprint("documents by chance, number ", i), l)
		lawful(t, fmt.Sprint("documents by chance, number ", i), l)
	}
}

// TestDocumentsOutOfOrder: lists whose lines do not rise mean what they mean in order.
func TestDocumentsOutOfOrder(t *testing.T) {
	chance := rand.New(rand.NewSource(1202))
	for i := range 500 {
		l := chanceDocs(chance, 40)
		of := asked(l)
		want := answers(made(t, l), of)
		for _, d := range l {
			chance.Shuffle(len(d.D.Rules), func(i, j int) { d.D.Rules[i], d.D.Rules[j] = d.D.Rules[j], d.D.Rules[i] })
			chance.Shuffle(len(d.D.Zones), func(i, j int) { d.D.Zones[i], d.D.Zones[j] = d.D.Zones[j], d.D.Zones[i] })
			chance.Shuffle(len(d.D.Links), func(i, j int) { d.D.Links[i], d.D.Links[j] = d.D.Links[j], d.D.Links[i] })
			chance.Shuffle(len(d.D.Diags), func(i, j int) { d.D.Diags[i], d.D.Diags[j] = d.D.Diags[j], d.D.Diags[i] })
		}
		if got := answers(made(t, l), of); got != want {
			t.Fatalf("documents out of order, number %d: %s, not %s", i, short(got), short(want))
		}
	}
}

// TestDocumentsThatNoTextMakes: lists of a zone that are too short, or too long, and lines of any number.
func TestDocumentsThatNoTextMakes(t *testing.T) {
	era := api.Era{Kind: 2, Rules: "R"}
	for _, x := range []struct {
		z           document.Zone
		place, want string
	}{
		{document.Zone{Name: "A"}, "{a 0}", "a1 3"}, {document.Zone{Name: "A", Lines: []int{7, 2}}, "{a 7}", "a1 3"}, {document.Zone{Name: "A", Eras: []api.Era{era}}, "{a 0}", "a0 12, a1 3"},
		{document.Zone{Name: "A", Eras: []api.Era{{}, era}, Lines: []int{5}}, "{a 5}", "a0 12, a1 3"}, {document.Zone{Name: "A", Eras: []api.Era{era}, Lines: []int{-5, 4}}, "{a -5}", "a-5 12, a1 3"}, {document.Zone{Name: "A", Eras: []api.Era{era, era}, Lines: []int{math.MaxInt, math.MinInt}}, fmt.Sprintf("{a %d}", math.MaxInt), fmt.Sprintf("a%d 12, a1 3, a%d 12", math.MinInt, math.MaxInt)},
	} {
		s := made(t, []names.Doc{{Name: "a", D: document.Doc{Zones: []document.Zone{x.z}, Diags: []api.Diag{{Line: 1, K: 3}}}}})
		z, at, ok := s.Zone("A")
		what := fmt.Sprintf("%+v", x.z)
		is(t, what, fmt.Sprintf("%+v %v %v", z, at, ok), fmt.Sprintf("%+v %s true", x.z, x.place))
		is(t, what+": Diags", told(s.Diags()), x.want)
		is(t, what+": Bad", s.Bad("A"), strings.Contains(x.want, " 12"))
	}
	long := made(t, []names.Doc{{Name: "a", D: document.Doc{Zones: []document.Zone{{Name: "A", Eras: []api.Era{{}}, Lines: []int{7, 1}}}, Diags: []api.Diag{{Line: 1, K: 3}}}}})
	is(t, "a zone with a line more than eras, which is wrong", long.Bad("A"), true)
	s := made(t, []names.Doc{{Name: "a", D: document.Doc{Zones: []document.Zone{{Lines: []int{3}}}, Links: []document.Link{{Line: 9}, {Name: "A", Line: -4}}}}})
	is(t, "a zone without a name", fmt.Sprintf("%q %s %s %s %v", s.Names(), stands(s, ""), came(s, "A"), told(s.Diags()), s.Bad("A")), `["" "A"] zone a3 [3]  by A, a9 11 false`)
}

// Of nil, and what is shared.

func TestOfNil(t *testing.T) {
	var s *names.Space
	for _, name := range []string{"", "A", "\xff"} {
		z, at, ok := s.Zone(name)
		zero(t, "Zone of nil", z.Name, z.Eras, z.Lines, at, ok)
		target, at, ok := s.Link(name)
		zero(t, "Link of nil", target, at, ok)
		r, p := s.Rules(name)
		zero(t, "Rules of nil", r, p)
		end, way, k := s.Resolve(name)
		zero(t, "Resolve of nil", end, way)
		is(t, "Resolve of nil", int(k), 12)
		is(t, "Bad of nil", s.Bad(name), false)
	}
	zero(t, "Names and Diags of nil", s.Names(), s.Diags())
	is(t, "all of a space that Make did not make", answers(&names.Space{}, []string{"", "A"}), answers(made(t, nil), []string{"", "A"}))
}

const source = "Zone A 0 R X 2000\n1 - Y\nLink A B\nLink Q C\nZone A 0 - Y\nfoo\nRule R 1800 1999 - Jan 1 0 0 -\n"

func sourceDocs() []names.Doc {
	return docs(source+rules("R", 0, 13), "Zone D 0 R X\nLink B E\n"+rules("R", 20, 13), "")
}

// TestDocumentsAreNotKept: Make changes nothing that it is given, and what becomes of it later changes no space.
func TestDocumentsAreNotKept(t *testing.T) {
	l := copyOf(sourceDocs())
	for _, d := range l { // so that order is asked for
		slices.Reverse(d.D.Rules)
		slices.Reverse(d.D.Zones)
		slices.Reverse(d.D.Links)
		slices.Reverse(d.D.Diags)
	}
	before := wholeOf(l)
	s := made(t, l)
	of := asked(l)
	want := answers(s, of)
	is(t, "what Make was given", wholeOf(l), before)
	for _, d := range l {
		for _, z := range d.D.Zones {
			spoil(z.Eras, api.Era{Kind: 2, Rules: "none"})
			spoil(z.Lines, 0)
		}
		spoil(d.D.Zones, document.Zone{Name: "Z"})
		spoil(d.D.Rules, document.Rule{R: api.Rule{Name: "Z"}})
		spoil(d.D.Links, document.Link{Name: "Z", Target: "Z"})
		spoil(d.D.Diags, api.Diag{Line: 99})
	}
	spoil(l, names.Doc{Name: "z"})
	is(t, "answers, when the documents are changed", answers(s, of), want)
}

// TestAnswersShareNothing: what a caller does with an answer, and with the room behind it, is seen nowhere else.
func TestAnswersShareNothing(t *testing.T) {
	l := sourceDocs()
	of := asked(l)
	s, other := made(t, l), made(t, l)
	want := answers(s, of)
	for range 2 {
		spoil(s.Names(), "Z")
		spoil(s.Diags(), api.Diag{Doc: "z", Line: 99})
		for _, name := range of {
			z, _, _ := s.Zone(name)
			spoil(z.Eras, api.Era{Kind: 2, Rules: "none"})
			spoil(z.Lines, 99)
			r, p := s.Rules(name)
			spoil(r, api.Rule{Name: "Z"})
			spoil(p, names.Place{Doc: "z", Line: 99})
			_, way, _ := s.Resolve(name)
			spoil(way, "Z")
		}
	}
	is(t, "answers, when others are changed", answers(s, of), want)
	is(t, "answers of another space", answers(other, of), want)
	is(t, "the documents", answers(made(t, l), of), want)
	z, _, _ := s.Zone("A")
	y, _, _ := s.Zone("A")
	spoil(z.Eras, api.Era{})
	spoil(z.Lines, 99)
	is(t, "an answer, when another one is changed", fmt.Sprint(y.Lines, y.Eras[0].Rules), "[0 1]R")
}

// TestAnswersHangOnDocumentsAlone: not on what was asked ahead, nor on how often.
func TestAnswersHangOnDocumentsAlone(t *testing.T) {
	l := sourceDocs()
	of := asked(l)
	s, want := made(t, l), answers(made(t, l), of)
	for _, name := range slices.Backward(of) {
		is(t, "answers of "+name, answers(s, []string{name}), answers(made(t, l), []string{name}))
	}
	for range 50 {
		is(t, "answers of one space", answers(s, of), want)
		is(t, "answers of the same documents", answers(made(t, l), of), want)
	}
}

func TestExample(t *testing.T) {
	s := of(t, "Link A B\nLink B A")
	is(t, "the example", fmt.Sprintln(told(s.Diags()), came(s, "A"), came(s, "B"), s.Names(), s.Bad("A"), s.Bad("B")), "a0 13, a1 13 kind 13 kind 13 [A B] true true\n")
	whole := of(t, "Rule EU 1981 max - Mar lastSun 1:00u 1:00 S\nRule EU 1996 max - Oct lastSun 1:00u 0 -", "Zone P 1:00 EU CE%sT", "Link P Q")
	is(t, "the whole's example", fmt.Sprintln(told(whole.Diags()), came(whole, "Q"), whole.Bad("Q")), " P by Q,P false\n")
	cycle := of(t, "Link Q P\nLink P Q")
	is(t, "its third example", fmt.Sprintln(told(cycle.Diags()), cycle.Bad("P"), cycle.Bad("Q")), "a0 13, a1 13 true true\n")
}
