package line_test

import (
	"fmt"
	"math"
	"math/rand"
	"reflect"
	"regexp"
	"slices"
	"strings"
	"testing"
	"time"

	"noonmark/api"
	"noonmark/lexer"
	"noonmark/line"
)

// is: of two lines, or of two texts.
func is[T comparable](t *testing.T, what string, got, want T) {
	t.Helper()
	if got != want {
		t.Errorf("%.240s: %+v, not %+v", what, got, want)
	}
}

// same is for long loops: it stops at the first fault.
func same[T comparable](t *testing.T, what string, got, want T) {
	t.Helper()
	if got != want {
		t.Fatalf("%.240s: %+v, not %+v", what, got, want)
	}
}

func fault(k api.Kind, col int) api.Line { return api.Line{Kind: 5, Err: k, Col: col} }

// shown: the answer of Show as a text.
func shown(l api.Line) string {
	s, k := line.Show(l)
	return fmt.Sprintf("%q %d", s, int(k))
}

func text(s string) string { return fmt.Sprintf("%q 0", s) }

const noText = `"" 1` // of Show

// right: l is what s says, and is shown so.
func right(t *testing.T, s string, l api.Line, shows string) {
	t.Helper()
	same(t, fmt.Sprintf("Parse of %q", s), line.Parse(s), l)
	same(t, fmt.Sprintf("Right of what %q says", s), line.Right(l), true)
	same(t, fmt.Sprintf("Show of what %q says", s), shown(l), text(shows))
	same(t, fmt.Sprintf("Parse of %q", shows), line.Parse(shows), l)
}

// notRight: no text says l.
func notRight(t *testing.T, l api.Line) {
	t.Helper()
	same(t, fmt.Sprintf("Right of %+v", l), line.Right(l), false)
	same(t, fmt.Sprintf("Show of %+v", l), shown(l), noText)
}

// join: a line of these fields, each in quotes if it must be, and where each of them begins.
func join(fields ...string) (s string, cols []int) {
	for i, f := range fields {
		if i > 0 {
			s += " "
		}
		cols = append(cols, len(s))
		if f == "" || strings.ContainsAny(f, "\t\n\v\f\r #") {
			f = `"` + f + `"`
		}
		s += f
	}
	return s, cols
}

func joined(fields ...string) string {
	s, _ := join(fields...)
	return s
}

// with: the list with another text at i.
func with(l []string, i int, s string) []string {
	l = slices.Clone(l)
	l[i] = s
	return l
}

// allBytes: each byte as a text.
func allBytes() []string {
	var l []string
	for i := range 256 {
		l = append(l, string([]byte{byte(i)}))
	}
	return l
}

// everyText calls f with every text of at most n of these letters.
func everyText(n int, letters []string, f func(s string)) {
	f("")
	if n == 0 {
		return
	}
	for _, x := range letters {
		everyText(n-1, letters, func(s string) { f(x + s) })
	}
}

// everyCase calls f with s in each mix of small and great letters.
func everyCase(s string, f func(s string)) {
	if s == "" {
		f("")
		return
	}
	everyCase(s[1:], func(rest string) {
		f(strings.ToLower(s[:1]) + rest)
		f(strings.ToUpper(s[:1]) + rest)
	})
}

// wild: numbers that are out of any field's bounds; some would be in them, if their high bits were dropped.
var wild = []int{
	math.MinInt, math.MinInt + 1, math.MinInt + 31, math.MinInt32, -1 << 32, -1<<32 + 1, -1<<32 + 5, -1 << 53, -604801,
	604801, 1 << 32, 1<<32 + 1, 1<<32 + 2, 1<<32 + 1981, 1 << 53, math.MaxInt32, math.MaxInt32 + 1, math.MaxInt - 1, math.MaxInt,
}

// value: of a field: how it is written, how it is shown, and what it puts into a line.
type value struct {
	s, shown string
	set      func(l *api.Line)
}

// field: of a kind of lines: what it may be, the first one being the ordinary one; what it may not be, and the kind of that.
type field struct {
	name  string
	right []value
	wrong []string
	k     api.Kind
}

// shape: a kind of lines: its first field, if that tells nothing else, and the others.
type shape struct {
	kind   int
	head   string
	fields []field
	least  int // fields, the head too
}

func (f shape) heads() []string {
	if f.head == "" {
		return nil
	}
	return []string{f.head}
}

// ordinary: the texts of the line of that shape of which each field is ordinary, and what it says.
func (f shape) ordinary() (texts, shown []string, l api.Line) {
	texts, shown, l.Kind = f.heads(), f.heads(), f.kind
	for _, x := range f.fields {
		texts, shown = append(texts, x.right[0].s), append(shown, x.right[0].shown)
		x.right[0].set(&l)
	}
	return texts, shown, l
}

// asShown: the text of these fields, of which those of an until that stand for none are cut.
func (f shape) asShown(fields []string) string {
	none := []string{"Jan", "1", "0:00"}
	for n := len(fields) - f.least - 1; n > 0 && fields[len(fields)-1] == none[n-1]; n-- {
		fields = fields[:len(fields)-1]
	}
	return joined(fields...)
}

func values(set func(l *api.Line, s string), l ...string) []value {
	var v []value
	for _, s := range l {
		v = append(v, value{s, s, func(l *api.Line) { set(l, s) }})
	}
	return v
}

func zoneNames(set func(l *api.Line, s string), first string) field {
	right := values(set, first, "UTC", "a", "1/2", "+", "_", "Etc/GMT+5", "Etc/GMT-14", "America/Argentina/Buenos_Aires"[:30], strings.Repeat("a", 30))
	wrong := []string{"", "/", "/a", "a/", "a//b", "-", "-a", "a/-b", "a b", "a.b", "a#b", "é", "Europe/Berl\u0131n", "a\x00", "a\tb", strings.Repeat("a", 31), strings.Repeat("a", 150)}
	return field{"a zone's NAME", right, wrong, api.BadName}
}

// times: what a time's text tells.
func times(set func(l *api.Line, a api.At), first string) field {
	right := []value{{first, first, func(l *api.Line) { set(l, api.At{Sec: 3600, Kind: 2}) }}}
	for _, x := range []struct {
		s, shown  string
		sec, kind int
	}{
		{"0", "0:00", 0, 0}, {"-", "0:00", 0, 0}, {"-0", "0:00", 0, 0}, {"0:00", "0:00", 0, 0}, {"0w", "0:00", 0, 0}, {"00:00:00", "0:00", 0, 0},
		{"0s", "0:00s", 0, 1}, {"0u", "0:00u", 0, 2}, {"-0:00u", "0:00u", 0, 2}, {"2", "2:00", 7200, 0}, {"2:00w", "2:00", 7200, 0}, {"2:00s", "2:00s", 7200, 1}, {"02:00g", "2:00u", 7200, 2}, {"2:00z", "2:00u", 7200, 2},
		{"0:00:01", "0:00:01", 1, 0}, {"-0:00:01", "-0:00:01", -1, 0}, {"2:30:15", "2:30:15", 9015, 0}, {"24", "24:00", 86400, 0}, {"25:00", "25:00", 90000, 0}, {"-1:30", "-1:30", -5400, 0},
		{"167:59:59", "167:59:59", 604799, 0}, {"-167:59:59u", "-167:59:59u", -604799, 2}, {"167:59:59s", "167:59:59s", 604799, 1}, {"-12", "-12:00", -43200, 0},
	} {
		right = append(right, value{x.s, x.shown, func(l *api.Line) { set(l, api.At{Sec: x.sec, Kind: x.kind}) }})
	}
	wrong := []string{"", "168", "-168:00", "168:00:00u", "2:0", "2:60", "2:00:60", "2:00x", "2:00S", "2:00ss", "-s", "--", "-u", "+1", ":30", "2:", "0000", "1.5", "x", "max", " 2", "2 ", "2:00#"}
	return field{"a time", right, wrong, api.BadTime}
}

// amounts: what an amount tells.
func amounts(set func(l *api.Line, n int), first value) field {
	right := []value{first}
	for _, x := range []struct {
		s, shown string
		n        int
	}{
		{"0", "0:00", 0}, {"-", "0:00", 0}, {"-0", "0:00", 0}, {"0:00", "0:00", 0}, {"2", "2:00", 7200}, {"0:20", "0:20", 1200}, {"-1:00", "-1:00", -3600}, {"0:00:01", "0:00:01", 1}, {"-0:00:01", "-0:00:01", -1},
		{"24", "24:00", 86400}, {"24:00:00", "24:00", 86400}, {"-24", "-24:00", -86400}, {"23:59:59", "23:59:59", 86399}, {"-23:59:59", "-23:59:59", -86399}, {"002:00", "2:00", 7200},
	} {
		right = append(right, value{x.s, x.shown, func(l *api.Line) { set(l, x.n) }})
	}
	// each begins with a digit or a -, so that it may begin a continuation
	wrong := []string{"24:00:01", "-24:00:01", "25", "-25:00", "167:59:59", "1:00s", "0u", "-0w", "1:00d", "--", "-x", "1x", "1:0", "1:60", "1:", "-:30", "0000", "1.5", "1 ", "-\t", "1:00#"}
	return field{"an amount", right, wrong, api.BadTime}
}

func years(set func(l *api.Line, y int), first int) field {
	var right []value
	for _, y := range []int{first, 1, 2, 9, 10, 99, 100, 999, 1000, 1900, 1999, 2000, 9998, 9999} {
		s := fmt.Sprint(y)
		right = append(right, value{s, s, func(l *api.Line) { set(l, y) }})
	}
	wrong := []string{"", "0", "-1", "10000", "10001", "01", "+1", "1e3", "1.", "99999999999999999999", "4294969277", "only", "o", "max", "maximum", "min", "x", "-", "Oct", "1:00", " 1", "2000#"}
	return field{"a year", right, wrong, api.BadYear}
}

func shortMonths() []string {
	return strings.Fields("Jan Feb Mar Apr May Jun Jul Aug Sep Oct Nov Dec")
}

func months(set func(l *api.Line, m int), first int) field {
	short := shortMonths()
	right := []value{{short[first-1], short[first-1], func(l *api.Line) { set(l, first) }}}
	for i, s := range strings.Fields("january february march april may june july august september october november december") {
		for _, x := range []string{short[i], s, strings.ToUpper(s), s[:3], strings.ToUpper(s[:1]) + s[1:]} {
			right = append(right, value{x, short[i], func(l *api.Line) { set(l, i+1) }})
		}
	}
	for i, s := range map[int]string{1: "ja", 2: "f", 4: "ap", 6: "jUn", 8: "Au", 9: "sept", 10: "o", 11: "N", 12: "d"} {
		right = append(right, value{s, short[i-1], func(l *api.Line) { set(l, i) }})
	}
	wrong := []string{"", "ju", "ma", "j", "M", "a", "1", "10", "-", "Januarys", "Jam", "x", "only", "Jan.", " Jan", "Jan ", "\u017fep", "Oct#", "Octob\u0435r"}
	return field{"a month", right, wrong, api.BadDay}
}

// dayTexts: every day that a text tells, with that text.
var dayTexts = allDays()

func allDays() map[api.Day]string {
	texts := map[api.Day]string{}
	for day := 1; day <= 31; day++ {
		texts[api.Day{Day: day}] = fmt.Sprint(day)
		for week, name := range strings.Fields("Sun Mon Tue Wed Thu Fri Sat") {
			texts[api.Day{Kind: 1, Week: week}] = "last" + name
			texts[api.Day{Kind: 2, Day: day, Week: week}] = fmt.Sprint(name, ">=", day)
			texts[api.Day{Kind: 3, Day: day, Week: week}] = fmt.Sprint(name, "<=", day)
		}
	}
	return texts
}

// longOf: how many days a month has, by the library's calendar.
func longOf(y, m int) int { return time.Date(y, time.Month(m)+1, 0, 0, 0, 0, 0, time.UTC).Day() }

// days: of a month of 31 days.
func days(set func(l *api.Line, d api.Day)) field {
	right := []value{{"lastSun", "lastSun", func(l *api.Line) { set(l, api.Day{Kind: 1}) }}}
	for d, s := range dayTexts {
		right = append(right, value{s, s, func(l *api.Line) { set(l, d) }})
	}
	wrong := []string{"", "0", "32", "01", "-", "-1", "+1", "100", "Sun", "last", "lastsun", "lastSunday", "LastSun", "sun>=1", "Sunday>=1", "Sun>=0", "Sun>=32", "Sun>=", "Sun>1", "Sun=>1", "Sun<=0", "Sun<=32", "Sun<1", ">=1", "1>=Sun", "Sun>=01", "x", "Sun >=1", "1#"}
	return field{"a day", right, wrong, api.BadDay}
}

func ruleShape() shape {
	set := func(l *api.Line) *api.Rule { return &l.Rule }
	name := values(func(l *api.Line, s string) { set(l).Name = s }, "EU", "C-Eur", "E-EurAsia", "AN2", "_", "_1-", "a", "Rule", "only", strings.Repeat("a", 30))
	noName := []string{"", "-", "-a", "1", "9x", "+", "a+", "/", "a/b", "Europe/Paris", "a b", "a.b", "a#b", "é", "a\x00", "0:20", strings.Repeat("a", 31)}
	to := []value{
		{"max", "max", func(l *api.Line) { set(l).To = 10000 }}, {"ma", "max", func(l *api.Line) { set(l).To = 10000 }}, {"MAXIMUM", "max", func(l *api.Line) { set(l).To = 10000 }},
		{"only", "only", func(l *api.Line) { set(l).To = 1981 }}, {"o", "only", func(l *api.Line) { set(l).To = 1981 }}, {"Onl", "only", func(l *api.Line) { set(l).To = 1981 }}, {"1981", "only", func(l *api.Line) { set(l).To = 1981 }},
		{"1982", "1982", func(l *api.Line) { set(l).To = 1982 }}, {"2037", "2037", func(l *api.Line) { set(l).To = 2037 }}, {"9999", "9999", func(l *api.Line) { set(l).To = 9999 }},
	}
	noTo := []string{"", "1980", "1", "0", "-1", "10000", "10001", "01982", "+1982", "m", "mi", "min", "minimum", "onlyx", "maxx", "-", "x", "endless", "1982#"}
	none := []value{{"-", "-", func(l *api.Line) {}}}
	noNone := []string{"", "--", "x", "- ", " -", "+", "0", "wall", "even", "uspres", "max", "Mar", "\u2212", "\u2013", "-#"}
	letter := values(func(l *api.Line, s string) { set(l).Letter = s }, "S", "D", "s", "Z", "+", "0", "9", "+01", "GHST", "1a+2Zz", "abcdef", "++++++")
	letter = append(letter, value{"-", "-", func(l *api.Line) {}})
	noLetter := []string{"", "--", "-S", "S-", "abcdefg", "+++++++", "a_", "a/b", "/", "%s", "a b", "a.", "é", "\xff", "a\x00", "#", "S#", " "}
	amount := value{"1:00", "1:00", func(l *api.Line) { set(l).Save = 3600 }}
	return shape{1, "Rule", []field{
		{"NAME", name, noName, api.BadName},
		years(func(l *api.Line, y int) { set(l).From = y }, 1981),
		{"TO", to, noTo, api.BadYear},
		{"the -", none, noNone, api.Syntax},
		months(func(l *api.Line, m int) { set(l).Month = m }, 3),
		days(func(l *api.Line, d api.Day) { set(l).On = d }),
		times(func(l *api.Line, a api.At) { set(l).At = a }, "1:00u"),
		amounts(func(l *api.Line, n int) { set(l).Save = n }, amount),
		{"LETTER", letter, noLetter, api.BadFormat},
	}, 10}
}

// eraFields: of an era with an until of four parts.
func eraFields() []field {
	set := func(l *api.Line) *api.Era { return &l.Era }
	off := value{"-3:30:52", "-3:30:52", func(l *api.Line) { set(l).Off = -12652 }}
	rules := values(func(l *api.Line, s string) { set(l).Kind, set(l).Rules = 2, s }, "EU", "C-Eur", "_", "a1-_", "max", "Zone", strings.Repeat("r", 30))
	rules = append(rules, value{"-", "-", func(l *api.Line) {}})
	for _, x := range amounts(func(l *api.Line, n int) { set(l).Kind, set(l).Save = 1, n }, value{}).right[1:] {
		if x.s != "-" {
			rules = append(rules, x)
		}
	}
	noRules := []string{"", "--", "-x", "-EU", "+", "+1", "1x", "24:00:01", "-24:00:01", "25", "1:00s", "1:0", "a/b", "a+", "/", "%s", "a b", "é", "a\x00", "EU#", strings.Repeat("r", 31)}
	return []field{
		amounts(func(l *api.Line, n int) { set(l).Off = n }, off),
		{"RULES", rules, noRules, api.BadName},
		{"FORMAT", values(func(l *api.Line, s string) { set(l).Format = s }, rightFormats()...), wrongFormats(), api.BadFormat},
		years(func(l *api.Line, y int) { set(l).Until.Has, set(l).Until.Year = true, y }, 1996),
		months(func(l *api.Line, m int) { set(l).Until.Month = m }, 10),
		days(func(l *api.Line, d api.Day) { set(l).Until.On = d }),
		times(func(l *api.Line, a api.At) { set(l).Until.At = a }, "1:00u"),
	}
}

func rightFormats() []string {
	return []string{"CE%sT", "X", "x", "0", "9", "+", "-", "--", "+-", "LMT", "-00", "+0530", "%s", "%z", "/", "%sT", "T%s", "a%z", "%za", "GMT/BST", "/BST", "GMT/", "+03/+04", "-03/-02", strings.Repeat("a", 20), strings.Repeat("a", 18) + "%s", "%z" + strings.Repeat("a", 18), strings.Repeat("a", 10) + "/" + strings.Repeat("b", 9)}
}

func wrongFormats() []string {
	return []string{
		"", "//", "a/b/c", "a//b", "%s%s", "%z%z", "%s%z", "%z%s", "%s/", "/%s", "%z/", "/%z", "a%sb%sc", "a%s/b", "a/%zb", "%", "a%", "%%", "%%s", "%s%", "%/", "/%", "%S", "%Z", "%d", "%x", "% s", "%1", "%-s", "%%ss", "%/s", "%%zs",
		"_", "a_b", "a.b", "a b", "a:b", "é", "\xff", "a\x00", "<+03>", "*", ",", "#", "a#", `a\b`, "@", "[", "`", "{", strings.Repeat("a", 21), strings.Repeat("a", 19) + "%s", strings.Repeat("a", 10) + "/" + strings.Repeat("b", 10), strings.Repeat("%s", 11),
	}
}

func zoneShape() shape {
	name := zoneNames(func(l *api.Line, s string) { l.Name = s }, "Europe/Paris")
	return shape{2, "Zone", append([]field{name}, eraFields()...), 5}
}

func furtherShape() shape { return shape{3, "", eraFields(), 3} }

func linkShape() shape {
	return shape{4, "Link", []field{zoneNames(func(l *api.Line, s string) { l.Target = s }, "Europe/London"), zoneNames(func(l *api.Line, s string) { l.Name = s }, "GB-Eire")}, 3}
}

func shapes() []shape { return []shape{ruleShape(), zoneShape(), furtherShape(), linkShape()} }

// ordinaryLines: of each shape, those with each number of fields.
func ordinaryLines() [][]string {
	var l [][]string
	for _, f := range shapes() {
		texts, _, _ := f.ordinary()
		for n := f.least; n <= len(texts); n++ {
			l = append(l, texts[:n])
		}
	}
	return l
}

// P901: Parse.

func TestLinesOfSources(t *testing.T) {
	at := func(sec, kind int) api.At { return api.At{Sec: sec, Kind: kind} }
	until := func(y, m int, d api.Day, a api.At) api.Until {
		return api.Until{Has: true, Year: y, Month: m, On: d, At: a}
	}
	first := api.Day{Day: 1}
	for _, x := range []struct {
		s, shown string
		l        api.Line
	}{
		{"Rule\tEU\t1977\t1980\t-\tApr\tSun>=1\t 1:00u\t1:00\tS", "Rule EU 1977 1980 - Apr Sun>=1 1:00u 1:00 S", api.Line{Kind: 1, Rule: api.Rule{Name: "EU", From: 1977, To: 1980, Month: 4, On: api.Day{Kind: 2, Day: 1}, At: at(3600, 2), Save: 3600, Letter: "S"}}},
		{"Rule EU 1977 only - Sep lastSun 1:00u 0 -", "Rule EU 1977 only - Sep lastSun 1:00u 0:00 -", api.Line{Kind: 1, Rule: api.Rule{Name: "EU", From: 1977, To: 1977, Month: 9, On: api.Day{Kind: 1}, At: at(3600, 2)}}},
		{"Rule Eire 1981 max - Mar lastSun 1:00u 0 - # a note", "Rule Eire 1981 max - Mar lastSun 1:00u 0:00 -", api.Line{Kind: 1, Rule: api.Rule{Name: "Eire", From: 1981, To: 10000, Month: 3, On: api.Day{Kind: 1}, At: at(3600, 2)}}},
		{"R e 1996 ma - O lastSu 1u -1 -", "", fault(api.BadDay, 16)},
		{"R e 1996 ma - O lastSun 1u -1 GMT", "Rule e 1996 max - Oct lastSun 1:00u -1:00 GMT", api.Line{Kind: 1, Rule: api.Rule{Name: "e", From: 1996, To: 10000, Month: 10, On: api.Day{Kind: 1}, At: at(3600, 2), Save: -3600, Letter: "GMT"}}},
		{"Rule Palestine 2020 only - Oct Sat<=30 1:00 0 -", "Rule Palestine 2020 only - Oct Sat<=30 1:00 0:00 -", api.Line{Kind: 1, Rule: api.Rule{Name: "Palestine", From: 2020, To: 2020, Month: 10, On: api.Day{Kind: 3, Day: 30, Week: 6}, At: at(3600, 0)}}},
		{"Zone\tEurope/London\t-0:01:15 -\tLMT\t1847 Dec  1", "Zone Europe/London -0:01:15 - LMT 1847 Dec", api.Line{Kind: 2, Name: "Europe/London", Era: api.Era{Off: -75, Format: "LMT", Until: until(1847, 12, first, at(0, 0))}}},
		{"\t\t\t 0:00\tGB-Eire\t%s\t1968 Oct 27", "0:00 GB-Eire %s 1968 Oct 27", api.Line{Kind: 3, Era: api.Era{Kind: 2, Rules: "GB-Eire", Format: "%s", Until: until(1968, 10, api.Day{Day: 27}, at(0, 0))}}},
		{"\t\t\t 1:00\t-\tBST\t1971 Oct 31  2:00u", "1:00 - BST 1971 Oct 31 2:00u", api.Line{Kind: 3, Era: api.Era{Off: 3600, Format: "BST", Until: until(1971, 10, api.Day{Day: 31}, at(7200, 2))}}},
		{"\t\t\t 0:00\tEU\tGMT/BST", "0:00 EU GMT/BST", api.Line{Kind: 3, Era: api.Era{Kind: 2, Rules: "EU", Format: "GMT/BST"}}},
		{"-3:00 0:30 -0230 1936 Oct Sun>=1 0:01", "-3:00 0:30 -0230 1936 Oct Sun>=1 0:01", api.Line{Kind: 3, Era: api.Era{Off: -10800, Kind: 1, Save: 1800, Format: "-0230", Until: until(1936, 10, api.Day{Kind: 2, Day: 1}, at(60, 0))}}},
		{"- 0 %z", "0:00 0:00 %z", api.Line{Kind: 3, Era: api.Era{Kind: 1, Format: "%z"}}},
		{"Zone Z 5:30 - %z", "Zone Z 5:30 - %z", api.Line{Kind: 2, Name: "Z", Era: api.Era{Off: 19800, Format: "%z"}}},
		{"Link\tEurope/London\tEurope/Jersey", "Link Europe/London Europe/Jersey", api.Line{Kind: 4, Target: "Europe/London", Name: "Europe/Jersey"}},
		{"L A A # itself", "Link A A", api.Line{Kind: 4, Target: "A", Name: "A"}},
		{"Leap 2016 Dec 31 23:59:60 + S", "", fault(api.Syntax, 0)},
		{"Link UTC", "", fault(api.Fields, 0)},
		{"\t\t\t+1:00 - CET", "", fault(api.Syntax, 3)},
	} {
		if x.l.Kind == 5 {
			is(t, fmt.Sprintf("Parse of %q", x.s), line.Parse(x.s), x.l)
			continue
		}
		right(t, x.s, x.l, x.shown)
	}
}

func TestLinesThatSayNothing(t *testing.T) {
	for _, s := range []string{"", " ", "\t", "\n", "\v", "\f", "\r", " \t\n\v\f\r", "#", "# a note", "#Rule EU", " # x", "\t#", "##", `# "`, `#"`, "#\n", "#\nLink A B", "\r\n", strings.Repeat(" ", 200), "#" + strings.Repeat("x", 199), strings.Repeat("\t", 100) + "#" + strings.Repeat(`"`, 99)} {
		right(t, s, api.Line{}, "")
	}
}

func TestLinesThatHaveNoFields(t *testing.T) {
	for _, x := range []struct {
		s    string
		want api.Line
	}{
		{`"`, fault(api.Unclosed, 0)}, {`  "`, fault(api.Unclosed, 2)}, {`Link A "B`, fault(api.Unclosed, 7)}, {`Link A B"`, fault(api.Unclosed, 8)}, {`Link "A" "B" "`, fault(api.Unclosed, 13)}, {`foo "`, fault(api.Unclosed, 4)}, {`Link - "B # x`, fault(api.Unclosed, 7)}, {`Link A"B C`, fault(api.Unclosed, 6)}, {`1 "`, fault(api.Unclosed, 2)}, {`""""""x"`, fault(api.Unclosed, 7)},
		{"Link A B" + strings.Repeat(" ", 193), fault(api.TooLarge, 0)}, {strings.Repeat(" ", 201), fault(api.TooLarge, 0)}, {"#" + strings.Repeat("x", 200), fault(api.TooLarge, 0)}, {strings.Repeat("a", 201), fault(api.TooLarge, 0)}, {strings.Repeat(" ", 200) + `"`, fault(api.TooLarge, 0)}, {strings.Repeat("Rule ", 1<<18), fault(api.TooLarge, 0)}, {strings.Repeat("\x00", 1<<20), fault(api.TooLarge, 0)},
	} {
		is(t, fmt.Sprintf("Parse of %q", x.s), line.Parse(x.s), x.want)
	}
	l := api.Line{Kind: 4, Target: "A", Name: "B"}
	for _, s := range []string{"Link A B" + strings.Repeat(" ", 192), strings.Repeat(" ", 192) + "Link A B", "Link A B#" + strings.Repeat("x", 191)} {
		is(t, fmt.Sprintf("Parse of %q", s), line.Parse(s), l)
	}
	is(t, "Parse of a long last field", line.Parse("Link A "+strings.Repeat("b", 193)), fault(api.BadName, 7))
	is(t, "Parse of a field too many at the end", line.Parse("Link A B"+strings.Repeat(" ", 191)+"C"), fault(api.Fields, 0))
}

// TestEveryHead: each begin of the heads, in each mix of small and great letters, with each number of fields.
func TestEveryHead(t *testing.T) {
	for _, f := range shapes() {
		texts, shown, l := f.ordinary()
		for n := 1; n <= len(f.head); n++ {
			everyCase(f.head[:n], func(s string) {
				right(t, joined(with(texts, 0, s)...), l, f.asShown(shown))
				same(t, fmt.Sprintf("Parse of %q", s), line.Parse(s), fault(api.Fields, 0))
			})
			everyCase(f.head[:n]+"x", func(s string) {
				same(t, fmt.Sprintf("Parse of %q", s), line.Parse(joined(with(texts, 0, s)...)), fault(api.Syntax, 0))
			})
		}
	}
}

// modelFirst: what is wrong with a line of this field alone, and of it and seven more, which are too many or too few of any kind but wrong in none of the first ones.
func modelFirst(s string) api.Kind {
	low := strings.ToLower(s)
	head := s != "" && (strings.HasPrefix("rule", low) || strings.HasPrefix("zone", low) || strings.HasPrefix("link", low))
	if head || regexp.MustCompile(`^[-0-9]`).MatchString(s) {
		return api.Fields
	}
	return api.Syntax
}

func TestFirstFields(t *testing.T) {
	first := func(s string) {
		t.Helper()
		for _, behind := range []string{"", strings.Repeat(" x", 12)} {
			for _, ahead := range []string{"", " \t "} {
				same(t, fmt.Sprintf("Parse with the first field %q", s), line.Parse(ahead+joined(s)+behind), fault(modelFirst(s), len(ahead)))
			}
		}
	}
	for _, c := range allBytes() {
		if c == `"` {
			continue
		}
		first(c)
		for _, d := range allBytes() {
			if d != `"` {
				first(c + d)
			}
		}
	}
	for _, s := range []string{"", "foo", "rules", "Rule:", "ule", "zones", "zome", "links", "lnk", "leap", "expires", "Rul\u0435", "-Rule", "1x", "-", "--", "-1:00", "0", "9999999", "+1:00", ".5", "\u0661", "\u22121", "é", "x1", " 1", " -1", "%s", "max"} {
		first(s)
	}
	is(t, "Parse of a quoted begin of a continuation", line.Parse(`"-1" - X`), api.Line{Kind: 3, Era: api.Era{Off: -3600, Format: "X"}})
	is(t, "Parse of a head of two parts", line.Parse(`Li"n"k A B`), api.Line{Kind: 4, Target: "A", Name: "B"})
	is(t, "Parse of a first field with a space", line.Parse(`" 1" - X`), fault(api.Syntax, 0))
}

// TestNumbersOfFields: of each kind of line, right ones and wrong ones.
func TestNumbersOfFields(t *testing.T) {
	for _, f := range shapes() {
		texts, _, _ := f.ordinary()
		for n := 1; n <= 30; n++ {
			fields := slices.Clone(texts[:min(n, len(texts))])
			for len(fields) < n {
				fields = append(fields, "1")
			}
			l := line.Parse("  " + joined(fields...))
			wrong := slices.Concat(f.heads(), slices.Repeat([]string{"-?"}, n-len(f.heads())))
			if f.least <= n && n <= len(texts) {
				same(t, fmt.Sprint("Kind of a line of ", fields), l.Kind, f.kind)
				continue
			}
			same(t, fmt.Sprint("Parse of ", fields), l, fault(api.Fields, 2))
			same(t, fmt.Sprint("Parse of ", wrong), line.Parse("  "+joined(wrong...)), fault(api.Fields, 2))
		}
	}
}

// TestEachFieldRight: each value of each field, the others being ordinary ones.
func TestEachFieldRight(t *testing.T) {
	for _, f := range shapes() {
		texts, shown, _ := f.ordinary()
		for i, x := range f.fields {
			for _, v := range x.right {
				l := api.Line{Kind: f.kind}
				for j, y := range f.fields {
					if j == i {
						v.set(&l)
					} else {
						y.right[0].set(&l)
					}
				}
				at := i + len(f.heads())
				right(t, joined(with(texts, at, v.s)...), l, f.asShown(with(shown, at, v.shown)))
			}
		}
	}
}

// TestEachFieldWrong: alone, with the line cut behind it as far as it may be, too.
func TestEachFieldWrong(t *testing.T) {
	for _, f := range shapes() {
		texts, _, _ := f.ordinary()
		for i, x := range f.fields {
			at := i + len(f.heads())
			for _, s := range x.wrong {
				for n := max(f.least, at+1); n <= len(texts); n++ {
					whole, cols := join(with(texts, at, s)[:n]...)
					same(t, fmt.Sprintf("Parse of %q, with %s wrong", whole, x.name), line.Parse(whole), fault(x.k, cols[at]))
				}
			}
		}
	}
}

// TestTwoFieldsWrong: the earlier one is told.
func TestTwoFieldsWrong(t *testing.T) {
	for _, f := range shapes() {
		texts, _, _ := f.ordinary()
		h := len(f.heads())
		for i, x := range f.fields {
			for j := i + 1; j < len(f.fields); j++ {
				for _, s := range x.wrong {
					for _, later := range f.fields[j].wrong[:4] {
						whole, cols := join(with(with(texts, h+i, s), h+j, later)...)
						if len(whole) <= 200 {
							same(t, fmt.Sprintf("Parse of %q", whole), line.Parse(whole), fault(x.k, cols[h+i]))
						}
					}
				}
			}
		}
	}
}

// TestAllFieldsWrong, from each field on.
func TestAllFieldsWrong(t *testing.T) {
	for _, f := range shapes() {
		fields, _, _ := f.ordinary()
		for i := len(f.fields) - 1; i >= 0; i-- {
			at := i + len(f.heads())
			fields[at] = f.fields[i].wrong[1]
			whole, cols := join(fields...)
			same(t, fmt.Sprintf("Parse of %q", whole), line.Parse("\t"+whole), fault(f.fields[i].k, 1+cols[at]))
		}
	}
}

func TestYearsOfRules(t *testing.T) {
	parsed := func(from, to string) api.Line {
		return line.Parse("Rule r " + from + " " + to + " - Jan 1 0 0 -")
	}
	for from := 1; from <= 9999; from += 7 {
		for _, to := range []int{1, from - 2, from - 1, from, from + 1, from + 2, 9998, 9999, 10000} {
			want := fault(api.BadYear, len(fmt.Sprint("Rule r ", from, " ")))
			if from <= to && to <= 9999 {
				want = api.Line{Kind: 1, Rule: api.Rule{Name: "r", From: from, To: to, Month: 1, On: api.Day{Day: 1}}}
			}
			same(t, fmt.Sprint("Parse of a rule from ", from, " to ", to), parsed(fmt.Sprint(from), fmt.Sprint(to)), want)
		}
		same(t, fmt.Sprint("To of a rule only in ", from), parsed(fmt.Sprint(from), "only").Rule.To, from)
		same(t, fmt.Sprint("To of a rule for ever from ", from), parsed(fmt.Sprint(from), "max").Rule.To, 10000)
	}
	for _, x := range []struct {
		from, to string
		want     api.Line
	}{
		{"9999", "only", api.Line{Kind: 1, Rule: api.Rule{Name: "r", From: 9999, To: 9999, Month: 1, On: api.Day{Day: 1}}}}, {"9999", "9999", parsed("9999", "o")}, {"9999", "9998", fault(api.BadYear, 12)}, {"9999", "10000", fault(api.BadYear, 12)}, {"10000", "only", fault(api.BadYear, 7)}, {"10000", "max", fault(api.BadYear, 7)},
		{"1", "1", parsed("1", "only")}, {"0", "only", fault(api.BadYear, 7)}, {"only", "only", fault(api.BadYear, 7)}, {"max", "max", fault(api.BadYear, 7)}, {"min", "max", fault(api.BadYear, 7)},
	} {
		is(t, fmt.Sprint("Parse of a rule from ", x.from, " to ", x.to), parsed(x.from, x.to), x.want)
	}
}

// canBe: can d be in that month?
func canBe(d api.Day, y, m int) bool { return d.Kind == 1 || d.Day <= longOf(y, m) }

// TestDaysThatCanBe: every day in every month of a Rule, and of untils in leap years and others.
func TestDaysThatCanBe(t *testing.T) {
	for m, month := range shortMonths() {
		for d, s := range dayTexts {
			ahead := "Rule r 1999 only - " + month + " "
			want := api.Line{Kind: 1, Rule: api.Rule{Name: "r", From: 1999, To: 1999, Month: m + 1, On: d}}
			if !canBe(d, 2000, m+1) {
				want = fault(api.BadDay, len(ahead))
			}
			same(t, fmt.Sprint("Parse of a rule on ", s, " in ", month), line.Parse(ahead+s+" 0 0 -"), want)
			same(t, fmt.Sprint("Right of a rule on ", s, " in ", month), line.Right(api.Line{Kind: 1, Rule: api.Rule{Name: "r", From: 1999, To: 1999, Month: m + 1, On: d}}), canBe(d, 2000, m+1))
		}
	}
	for _, y := range []int{1, 3, 4, 99, 100, 400, 1700, 1896, 1900, 1904, 1996, 1999, 2000, 2023, 2024, 2100, 9996, 9999} {
		for m, month := range shortMonths() {
			for d, s := range dayTexts {
				ahead := fmt.Sprint("1 - X ", y, " ", month, " ")
				l := api.Line{Kind: 3, Era: api.Era{Off: 3600, Format: "X", Until: api.Until{Has: true, Year: y, Month: m + 1, On: d}}}
				want := l
				if !canBe(d, y, m+1) {
					want = fault(api.BadDay, len(ahead))
				}
				same(t, fmt.Sprint("Parse of an until ", s, " in ", month, " ", y), line.Parse(ahead+s), want)
				same(t, fmt.Sprint("Right of an until ", s, " in ", month, " ", y), line.Right(l), canBe(d, y, m+1))
			}
		}
	}
}

func TestLeapDays(t *testing.T) {
	rule := func(on string) api.Line { return line.Parse("Rule r 1999 only - Feb " + on + " 0 0 -") }
	zone := func(y, on string) api.Line { return line.Parse("Zone A 0 - X " + y + " Feb " + on + " 0") }
	for _, x := range []struct {
		got  api.Line
		want int
	}{
		{rule("29"), 0}, {rule("30"), 23}, {rule("Sun>=29"), 0}, {rule("Sun>=30"), 23}, {rule("Sun<=29"), 0}, {rule("Sun<=30"), 23}, {rule("lastSun"), 0}, {rule("28"), 0}, {rule("31"), 23},
		{zone("2000", "29"), 0}, {zone("1996", "29"), 0}, {zone("1999", "29"), 22}, {zone("1900", "29"), 22}, {zone("2100", "29"), 22}, {zone("1999", "28"), 0}, {zone("2000", "30"), 22},
		{zone("1999", "Mon>=29"), 22}, {zone("1999", "Mon<=29"), 22}, {zone("2004", "Mon>=29"), 0}, {zone("2004", "Mon<=29"), 0}, {zone("1999", "Mon>=28"), 0}, {zone("1999", "lastMon"), 0},
	} {
		if x.want == 0 {
			is(t, "a day that can be", x.got.Err, api.OK)
			is(t, "a day that can be", line.Right(x.got), true)
			continue
		}
		is(t, "a day that can't be", x.got, fault(api.BadDay, x.want))
	}
}

// patterns: of fields that are told by their bytes.
var (
	letterPattern = regexp.MustCompile(`^(-|[A-Za-z0-9+]{1,6})$`)
	formatPattern = regexp.MustCompile(`^[-A-Za-z0-9+]*(/|%s|%z)?[-A-Za-z0-9+]*$`)
)

func rightFormat(s string) bool {
	return 1 <= len(s) && len(s) <= 20 && formatPattern.MatchString(s)
}

// letterAsThePattern, formatAsThePattern: a field that is wrong, if it is none.

func letterAsThePattern(t *testing.T, s string) {
	t.Helper()
	want := api.Line{Kind: 1, Rule: api.Rule{Name: "r", From: 1, To: 1, Month: 1, On: api.Day{Day: 1}, Letter: s}}
	if s == "-" {
		want.Rule.Letter = ""
	}
	if !letterPattern.MatchString(s) {
		want = fault(api.BadFormat, 23)
	}
	same(t, fmt.Sprintf("Parse of the letters %q", s), line.Parse("Rule r 1 1 - Jan 1 0 0 "+joined(s)), want)
}

func formatAsThePattern(t *testing.T, s string) {
	t.Helper()
	want := api.Line{Kind: 3, Era: api.Era{Format: s}}
	if !rightFormat(s) {
		want = fault(api.BadFormat, 4)
	}
	same(t, fmt.Sprintf("Parse of the format %q", s), line.Parse("0 - "+joined(s)), want)
	same(t, fmt.Sprintf("Right of the format %q", s), line.Right(api.Line{Kind: 3, Era: api.Era{Format: s}}), rightFormat(s))
}

func TestEveryShortLetter(t *testing.T) {
	for _, c := range allBytes() {
		if c == `"` {
			continue
		}
		for _, s := range []string{c, c + "a", "a" + c, "a" + c + "9", c + c, "-" + c, c + "-", "abcde" + c, c + "bcdef", "abcdef" + c, "abc" + c + "ef"} {
			letterAsThePattern(t, s)
		}
	}
	everyText(4, strings.Split("aZ09+-_%s/ ", ""), func(s string) { letterAsThePattern(t, s) })
	everyText(9, []string{"a", "+"}, func(s string) { letterAsThePattern(t, s) })
}

func TestEveryShortFormat(t *testing.T) {
	for _, c := range allBytes() {
		if c == `"` {
			continue
		}
		for _, s := range []string{c, c + "a", "a" + c, "a" + c + "9", c + c, "%" + c, c + "%s", "%s" + c, c + "%z", "%z" + c, "a/" + c, c + "/b", "%" + c + "s", strings.Repeat("a", 19) + c, c + strings.Repeat("a", 19), strings.Repeat("a", 20) + c} {
			formatAsThePattern(t, s)
		}
	}
	everyText(5, strings.Split("aZ0+-/%sz_", ""), func(s string) { formatAsThePattern(t, s) })
	everyText(6, []string{"a", "/", "%", "s", "z", "%s", "%z"}, func(s string) { formatAsThePattern(t, s) })
	for n := range 150 {
		for _, mark := range []string{"", "/", "%s", "%z"} {
			formatAsThePattern(t, strings.Repeat("a", n)+mark)
			formatAsThePattern(t, mark+strings.Repeat("-", n))
			formatAsThePattern(t, "+"+mark+strings.Repeat("9", n))
		}
	}
}

// TestUntils: of one to four fields, and one more; those that are not there are January, 1 and 0.
func TestUntils(t *testing.T) {
	for _, ahead := range []string{"Zone A 1 - X", "1 - X"} {
		for _, x := range []struct {
			s     string
			m     int
			d     api.Day
			a     api.At
			shows string
		}{
			{"1996", 1, api.Day{Day: 1}, api.At{}, "1996"}, {"1996 Jan", 1, api.Day{Day: 1}, api.At{}, "1996"}, {"1996 ja 1", 1, api.Day{Day: 1}, api.At{}, "1996"}, {"1996 JAN 1 0", 1, api.Day{Day: 1}, api.At{}, "1996"}, {"1996 Jan 1 -", 1, api.Day{Day: 1}, api.At{}, "1996"}, {"1996 Jan 1 0w", 1, api.Day{Day: 1}, api.At{}, "1996"},
			{"1996 Oct", 10, api.Day{Day: 1}, api.At{}, "1996 Oct"}, {"1996 o 1", 10, api.Day{Day: 1}, api.At{}, "1996 Oct"}, {"1996 Oct 1 0:00", 10, api.Day{Day: 1}, api.At{}, "1996 Oct"}, {"1996 Feb", 2, api.Day{Day: 1}, api.At{}, "1996 Feb"},
			{"1996 Jan 2", 1, api.Day{Day: 2}, api.At{}, "1996 Jan 2"}, {"1996 Jan 2 0", 1, api.Day{Day: 2}, api.At{}, "1996 Jan 2"}, {"1996 Oct lastSun", 10, api.Day{Kind: 1}, api.At{}, "1996 Oct lastSun"}, {"1996 Jan Sun>=1 -", 1, api.Day{Kind: 2, Day: 1}, api.At{}, "1996 Jan Sun>=1"}, {"1996 Jan Sun<=1", 1, api.Day{Kind: 3, Day: 1}, api.At{}, "1996 Jan Sun<=1"}, {"1996 Feb 29", 2, api.Day{Day: 29}, api.At{}, "1996 Feb 29"},
			{"1996 Jan 1 0s", 1, api.Day{Day: 1}, api.At{Kind: 1}, "1996 Jan 1 0:00s"}, {"1996 Jan 1 0u", 1, api.Day{Day: 1}, api.At{Kind: 2}, "1996 Jan 1 0:00u"}, {"1996 Jan 1 0:00:01", 1, api.Day{Day: 1}, api.At{Sec: 1}, "1996 Jan 1 0:00:01"}, {"1996 Jan 1 -1", 1, api.Day{Day: 1}, api.At{Sec: -3600}, "1996 Jan 1 -1:00"},
			{"1996 Oct 1 2", 10, api.Day{Day: 1}, api.At{Sec: 7200}, "1996 Oct 1 2:00"}, {"1996 Jan 2 24", 1, api.Day{Day: 2}, api.At{Sec: 86400}, "1996 Jan 2 24:00"}, {"1996 Oct lastSun 1u", 10, api.Day{Kind: 1}, api.At{Sec: 3600, Kind: 2}, "1996 Oct lastSun 1:00u"},
		} {
			l := line.Parse(ahead)
			l.Era.Until = api.Until{Has: true, Year: 1996, Month: x.m, On: x.d, At: x.a}
			shows := strings.Replace(ahead, " 1 -", " 1:00 -", 1)
			shows = regexp.MustCompile(`^1 `).ReplaceAllString(shows, "1:00 ")
			right(t, ahead+" "+x.s, l, shows+" "+x.shows)
		}
		is(t, "Parse of an until of none", line.Parse(ahead).Era.Until, api.Until{})
		is(t, "Parse of an until of five", line.Parse(ahead+" 1996 Jan 1 0 0"), fault(api.Fields, 0))
		is(t, "Parse of an until of a note", line.Parse(ahead+" # 1996").Era.Until, api.Until{})
	}
}

// P902: Right, Show, Same.

// part: of a line, by its name among api's.
type part struct {
	name string
	v    reflect.Value
}

// parts: all parts of l that have no parts themselves.
func parts(l *api.Line) []part {
	var all []part
	var walk func(name string, v reflect.Value)
	walk = func(name string, v reflect.Value) {
		if v.Kind() != reflect.Struct {
			all = append(all, part{name, v})
			return
		}
		for i := range v.NumField() {
			walk(name+"."+v.Type().Field(i).Name, v.Field(i))
		}
	}
	walk("", reflect.ValueOf(l).Elem())
	return all
}

// has: the names of the parts that mean something in l, as the chapter tells them.
func has(l api.Line) []string {
	var names []string
	switch l.Kind {
	case 1:
		return []string{".Kind", ".Rule."}
	case 2:
		names = []string{".Kind", ".Name", ".Era.Off", ".Era.Kind", ".Era.Format", ".Era.Until.Has"}
	case 3:
		names = []string{".Kind", ".Era.Off", ".Era.Kind", ".Era.Format", ".Era.Until.Has"}
	case 4:
		return []string{".Kind", ".Name", ".Target"}
	case 5:
		return []string{".Kind", ".Err", ".Col"}
	default:
		return []string{".Kind"}
	}
	if l.Era.Kind == 1 {
		names = append(names, ".Era.Save")
	}
	if l.Era.Kind == 2 {
		names = append(names, ".Era.Rules")
	}
	if l.Era.Until.Has {
		names = append(names, ".Era.Until.")
	}
	return names
}

func means(l api.Line, name string) bool {
	return slices.ContainsFunc(has(l), func(x string) bool {
		return name == x || strings.HasSuffix(x, ".") && strings.HasPrefix(name, x)
	})
}

// samples: right lines of each kind, with eras of each kind, with an until and without.
func samples() []api.Line {
	l := []api.Line{{}, line.Parse("Rule EU 1981 max - Mar lastSun 1:00u 1:00 S"), line.Parse("Rule EU 1981 only - Mar 5 0 0 -"), line.Parse("Link A B")}
	for _, era := range []string{"1 - X", "1 0:30 X", "1 0 X", "1 EU C%sT"} {
		for _, until := range []string{"", " 1996", " 1996 Oct lastSun 1:00s"} {
			l = append(l, line.Parse("Zone A "+era+until), line.Parse(era+until))
		}
	}
	return l
}

// others: values of a part, other ones than it has.
func others(v reflect.Value) []any {
	switch v.Kind() {
	case reflect.Bool:
		return []any{!v.Bool()}
	case reflect.String:
		return []any{v.String() + "x", v.String() + " ", v.String() + "\x00", "A" + v.String(), "-" + v.String()}
	}
	n := v.Int()
	return []any{n + 1, n - 1, n ^ 1<<8, n ^ 1<<16, n ^ 1<<32, n ^ 1<<62, ^n}
}

func set(v reflect.Value, x any) { v.Set(reflect.ValueOf(x).Convert(v.Type())) }

func TestSame(t *testing.T) {
	wrong := []api.Line{fault(api.Syntax, 0), fault(api.Fields, 3), fault(7, 200), {Kind: -1}, {Kind: 6}, {Kind: math.MinInt}}
	for _, l := range append(samples(), wrong...) {
		is(t, fmt.Sprintf("Same of %+v and itself", l), line.Same(l, l), true)
		for _, p := range parts(&l) {
			for _, x := range others(p.v) {
				other := l
				i := slices.IndexFunc(parts(&other), func(y part) bool { return y.name == p.name })
				set(parts(&other)[i].v, x)
				same(t, fmt.Sprintf("Same of %+v and with another %s", l, p.name), line.Same(l, other), false)
				same(t, fmt.Sprintf("Same of %+v, with another %s, and not", l, p.name), line.Same(other, l), false)
			}
		}
	}
	all := samples()
	for i, a := range all {
		for j, b := range all {
			same(t, fmt.Sprintf("Same of %+v and %+v", a, b), line.Same(a, b), i == j)
		}
	}
}

func TestSameOfTextsOfTheirOwn(t *testing.T) {
	a, b := line.Parse("Zone Europe/Paris 1 EU CE%sT"), line.Parse("z  Europe/Paris 1:00:00 EU CE%sT # x")
	is(t, "Same of two readings", line.Same(a, b), true)
	is(t, "Same of what is wrong at two places", line.Same(line.Parse("foo"), line.Parse(" foo")), false)
	is(t, "Same of what is wrong at one place", line.Same(line.Parse("foo"), line.Parse("bar baz")), true)
	is(t, "Same of two things that are wrong", line.Same(line.Parse("foo"), line.Parse("Link")), false)
}

func TestKindsOfLines(t *testing.T) {
	for _, l := range samples() {
		is(t, fmt.Sprintf("Right of %+v", l), line.Right(l), true)
		for _, kind := range append([]int{-2, -1, 0, 1, 2, 3, 4, 5, 6, 7, 10, 256, 257, 258, 260, 261}, wild...) {
			other := l
			other.Kind = kind
			if kind != l.Kind {
				notRight(t, other)
			}
			if kind != 0 {
				notRight(t, api.Line{Kind: kind})
			}
		}
	}
	is(t, "Right of a line that says nothing", line.Right(api.Line{}), true)
	for _, s := range []string{"foo", "Link A", "Link A -", "0 - %s%s", `"`, strings.Repeat("x", 201)} {
		notRight(t, line.Parse(s))
	}
	for k := api.Kind(-1); k <= 23; k++ {
		for _, col := range []int{-1, 0, 1, 199, 200, 201} {
			notRight(t, fault(k, col))
		}
	}
}

// TestPartsThatALineDoesNotHave: none of them may be other than zero.
func TestPartsThatALineDoesNotHave(t *testing.T) {
	values := map[reflect.Kind][]any{reflect.Bool: {true}, reflect.String: {"x", "EU", "-", " ", "0:00", "X"}, reflect.Int: {1, -1, 2, 3, 1996, 3600, 1 << 32, math.MinInt, math.MaxInt}}
	for _, l := range samples() {
		for i, p := range parts(&l) {
			if means(l, p.name) {
				continue
			}
			for _, x := range values[p.v.Kind()] {
				other := l
				set(parts(&other)[i].v, x)
				notRight(t, other)
			}
		}
	}
}

// stamp: hours, minutes, and seconds if there are some.
func stamp(n int) string {
	sign := ""
	if n < 0 {
		sign, n = "-", -n
	}
	s := fmt.Sprintf("%s%d:%02d", sign, n/3600, n/60%60)
	if n%60 != 0 {
		s += fmt.Sprintf(":%02d", n%60)
	}
	return s
}

func within(n, most int) bool { return -most <= n && n <= most }

func isYear(y int) bool { return 1 <= y && y <= 9999 }

// modelOn: a day's text, if it is one that can be in that month.
func modelOn(d api.Day, y, m int) (string, bool) {
	if m < 1 || m > 12 {
		return "", false
	}
	s, ok := dayTexts[d]
	return s, ok && canBe(d, y, m)
}

func modelAt(a api.At) (string, bool) {
	if !within(a.Sec, 604799) || a.Kind < 0 || a.Kind > 2 {
		return "", false
	}
	return stamp(a.Sec) + []string{"", "s", "u"}[a.Kind], true
}

var (
	zonePattern = regexp.MustCompile(`^[A-Za-z0-9+_][A-Za-z0-9+_-]*(/[A-Za-z0-9+_][A-Za-z0-9+_-]*)*$`)
	rulePattern = regexp.MustCompile(`^[A-Za-z_][A-Za-z0-9_-]*$`)
)

func modelZoneName(s string) bool { return len(s) <= 30 && zonePattern.MatchString(s) }

func modelRuleName(s string) bool { return len(s) <= 30 && rulePattern.MatchString(s) }

// modelShow: the text of a line, and whether it is right.
func modelShow(l api.Line) (string, bool) {
	only := api.Line{Kind: l.Kind}
	switch l.Kind {
	case 0:
		return "", l == only
	case 1:
		only.Rule = l.Rule
		s, ok := modelRule(l.Rule)
		return "Rule " + s, ok && l == only
	case 2:
		only.Name, only.Era = l.Name, l.Era
		s, ok := modelEra(l.Era)
		return "Zone " + l.Name + " " + s, ok && modelZoneName(l.Name) && l == only
	case 3:
		only.Era = l.Era
		s, ok := modelEra(l.Era)
		return s, ok && l == only
	case 4:
		only.Target, only.Name = l.Target, l.Name
		return "Link " + l.Target + " " + l.Name, modelZoneName(l.Target) && modelZoneName(l.Name) && l == only
	}
	return "", false
}

func modelRule(x api.Rule) (string, bool) {
	on, can := modelOn(x.On, 2000, x.Month)
	at, ok := modelAt(x.At)
	named := modelRuleName(x.Name) && isYear(x.From) && (x.To == 10000 || isYear(x.To) && x.To >= x.From)
	if !can || !ok || !named || !within(x.Save, 86400) || x.Letter != "" && (x.Letter == "-" || !letterPattern.MatchString(x.Letter)) {
		return "", false
	}
	to, letter := fmt.Sprint(x.To), x.Letter
	switch x.To {
	case x.From:
		to = "only"
	case 10000:
		to = "max"
	}
	if letter == "" {
		letter = "-"
	}
	return fmt.Sprintf("%s %d %s - %s %s %s %s %s", x.Name, x.From, to, shortMonths()[x.Month-1], on, at, stamp(x.Save), letter), true
}

func modelEra(e api.Era) (string, bool) {
	rules := "?"
	switch {
	case e.Kind == 0 && e.Save == 0 && e.Rules == "":
		rules = "-"
	case e.Kind == 1 && e.Rules == "" && within(e.Save, 86400):
		rules = stamp(e.Save)
	case e.Kind == 2 && e.Save == 0 && modelRuleName(e.Rules):
		rules = e.Rules
	}
	until, ok := modelUntil(e.Until)
	if rules == "?" || !ok || !within(e.Off, 86400) || !rightFormat(e.Format) {
		return "", false
	}
	return strings.TrimSuffix(fmt.Sprint(stamp(e.Off), " ", rules, " ", e.Format, " ", until), " "), true
}

func modelUntil(u api.Until) (string, bool) {
	if !u.Has {
		return "", u == api.Until{}
	}
	on, can := modelOn(u.On, u.Year, u.Month)
	at, ok := modelAt(u.At)
	if !isYear(u.Year) || !can || !ok {
		return "", false
	}
	s := fmt.Sprintf("%d %s %s %s.", u.Year, shortMonths()[u.Month-1], on, at)
	for _, none := range []string{" 0:00.", " 1.", " Jan."} {
		if rest, cut := strings.CutSuffix(s, none); cut {
			s = rest + "."
		} else {
			break
		}
	}
	return strings.TrimSuffix(s, "."), true
}

func asTheModel(t *testing.T, l api.Line) {
	t.Helper()
	s, ok := modelShow(l)
	want := noText
	if ok {
		want = text(s)
	}
	same(t, fmt.Sprintf("Show of %+v", l), shown(l), want)
	same(t, fmt.Sprintf("Right of %+v", l), line.Right(l), ok)
	if ok {
		same(t, fmt.Sprintf("Parse of %q", s), line.Parse(s), l)
	}
}

// bounds: numbers and texts about those that fields can tell.

func bounds() []int {
	return append([]int{-604800, -604799, -604798, -86401, -86400, -86399, -3600, -60, -2, -1, 0, 1, 2, 3, 4, 5, 6, 7, 8, 11, 12, 13, 28, 29, 30, 31, 32, 59, 60, 61, 1980, 1981, 1982, 1996, 3599, 3600, 9998, 9999, 10000, 10001, 86399, 86400, 86401, 604798, 604799, 604800}, wild...)
}

func edgeTexts() []string {
	l := []string{"", "-", "--", "A", "a", "_", "0", "9", "+", "1:00", "-1:00", "0:00", "EU", "A/B", "/", "/a", "a/", "a//b", "a-", "-a", "a+b", "+a", "only", "max", "%s", "%z", "%", "%s%s", "%s%z", "a/%s", "C%sT", "GMT/BST", "a b", " a", "a ", "#", "a#", "a\"b", `"`, `""`, "\"a\"", "a\n", "\n", "\x00", "\xff", "é", "a.b", "abcdef", "abcdefg"}
	for _, n := range []int{19, 20, 21, 29, 30, 31, 199, 200, 201, 100000} {
		l = append(l, strings.Repeat("a", n))
	}
	return append(l, strings.Repeat("a", 18)+"%s", strings.Repeat("a", 19)+"%z", "a/"+strings.Repeat("b", 28), "a/"+strings.Repeat("b", 29), strings.Repeat("%s", 10), strings.Repeat(`"`, 50))
}

// TestEachPartAtItsBounds: each part of each right line alone, just inside and just outside what its field can tell.
func TestEachPartAtItsBounds(t *testing.T) {
	for _, l := range samples() {
		for i, p := range parts(&l) {
			var values []any
			switch p.v.Kind() {
			case reflect.Bool:
				values = []any{false, true}
			case reflect.String:
				for _, s := range edgeTexts() {
					values = append(values, s)
				}
			default:
				for _, n := range bounds() {
					values = append(values, n)
				}
			}
			for _, x := range values {
				other := l
				set(parts(&other)[i].v, x)
				asTheModel(t, other)
			}
		}
	}
}

// TestDaysAndTimesAtTheirBounds: all parts of a day, and of a time, together.
func TestDaysAndTimesAtTheirBounds(t *testing.T) {
	rule, era := line.Parse("Rule EU 1981 max - Feb lastSun 1:00u 1:00 S"), line.Parse("1 EU C%sT 1999 Feb lastSun 1:00s")
	for kind := -1; kind <= 4; kind++ {
		for day := -1; day <= 33; day++ {
			for week := -1; week <= 7; week++ {
				rule.Rule.On = api.Day{Kind: kind, Day: day, Week: week}
				era.Era.Until.On = rule.Rule.On
				asTheModel(t, rule)
				asTheModel(t, era)
			}
		}
	}
	rule, era = line.Parse("Rule EU 1981 max - Feb lastSun 1:00u 1:00 S"), line.Parse("1 EU C%sT 1999 Feb 1")
	for kind := -1; kind <= 3; kind++ {
		for _, sec := range bounds() {
			rule.Rule.At = api.At{Sec: sec, Kind: kind}
			era.Era.Until.At = rule.Rule.At
			asTheModel(t, rule)
			asTheModel(t, era)
		}
	}
}

func TestYearsOfRulesAtTheirBounds(t *testing.T) {
	l := line.Parse("Rule EU 1981 max - Mar lastSun 1:00u 1:00 S")
	for _, from := range bounds() {
		for _, to := range append(bounds(), from) {
			l.Rule.From, l.Rule.To = from, to
			asTheModel(t, l)
		}
	}
}

// TestErasOfEachKind: Kind, Save and Rules together.
func TestErasOfEachKind(t *testing.T) {
	for _, base := range []string{"Zone A 1 - X", "1 - X 2000"} {
		l := line.Parse(base)
		for _, kind := range append([]int{-1, 0, 1, 2, 3, 4}, wild...) {
			for _, save := range []int{math.MinInt, -86401, -86400, -1, 0, 1, 3600, 86400, 86401, math.MaxInt} {
				for _, rules := range []string{"", "-", "EU", "1:00", "0:00", "a/b", strings.Repeat("r", 30), strings.Repeat("r", 31)} {
					l.Era.Kind, l.Era.Save, l.Era.Rules = kind, save, rules
					asTheModel(t, l)
				}
			}
		}
	}
}

// TestUntilsAsShown: MONTH, DAY and TIME each as what stands for none, and not, together.
func TestUntilsAsShown(t *testing.T) {
	for _, base := range []string{"Zone A 1 - X", "1 EU X"} {
		l := line.Parse(base)
		for _, u := range []bool{true, false} {
			for _, y := range []int{0, 1, 1999, 9999, 10000} {
				for _, m := range []int{0, 1, 2, 12, 13} {
					for _, d := range []api.Day{{}, {Day: 1}, {Day: 2}, {Day: 29}, {Kind: 1}, {Kind: 2, Day: 1}, {Kind: 3, Day: 1}, {Day: 1, Week: 1}} {
						for _, a := range []api.At{{}, {Sec: 1}, {Sec: -1}, {Kind: 1}, {Kind: 2}, {Kind: 3}, {Sec: 7200, Kind: 1}} {
							l.Era.Until = api.Until{Has: u, Year: y, Month: m, On: d, At: a}
							asTheModel(t, l)
						}
					}
				}
			}
		}
	}
}

func TestLongestLines(t *testing.T) {
	rule := "Rule " + strings.Repeat("r", 30) + " 1000 9999 - Sep Wed>=30 -167:59:59u -23:59:59 ABCDEF"
	zone := "Zone " + strings.Repeat("z", 30) + " -23:59:59 " + strings.Repeat("r", 30) + " " + strings.Repeat("f", 20) + " 1000 Sep Wed>=30 -167:59:59u"
	link := "Link " + strings.Repeat("a", 30) + " " + strings.Repeat("b", 30)
	for _, s := range []string{rule, zone, link} {
		right(t, s, line.Parse(s), s)
	}
}

// TestPartsByChance: several parts of right lines at once.
func TestPartsByChance(t *testing.T) {
	chance := rand.New(rand.NewSource(9))
	lines, numbers, texts := samples(), bounds(), edgeTexts()
	for range 60000 {
		l := lines[chance.Intn(len(lines))]
		all := parts(&l)
		for range 1 + chance.Intn(3) {
			p := all[chance.Intn(len(all))]
			switch p.v.Kind() {
			case reflect.Bool:
				p.v.SetBool(chance.Intn(2) == 0)
			case reflect.String:
				p.v.SetString(texts[chance.Intn(len(texts))])
			default:
				p.v.SetInt(int64(numbers[chance.Intn(len(numbers))]))
			}
		}
		asTheModel(t, l)
	}
}

// P903: laws.

// readAgain: what a text says is told again by the text that is shown of it.
func readAgain(t *testing.T, s string) {
	t.Helper()
	l := line.Parse(s)
	if l.Kind == 5 {
		same(t, fmt.Sprintf("what is wrong in %q", s), l, fault(l.Err, l.Col))
		same(t, fmt.Sprintf("Right of what is wrong in %q", s), line.Right(l), false)
		return
	}
	shows, k := line.Show(l)
	same(t, fmt.Sprintf("Show of what %q says", s), k, api.OK)
	same(t, fmt.Sprintf("Parse of %q, shown of %q", shows, s), line.Parse(shows), l)
	asTheModel(t, l)
}

// TestFieldsByChance: lines of right fields, and of some wrong ones.
func TestFieldsByChance(t *testing.T) {
	chance := rand.New(rand.NewSource(90))
	all := shapes()
	for range 60000 {
		f := all[chance.Intn(len(all))]
		fields := f.heads()
		for _, x := range f.fields {
			s := x.right[chance.Intn(len(x.right))].s
			if chance.Intn(40) == 0 {
				s = x.wrong[chance.Intn(len(x.wrong))]
			}
			fields = append(fields, s)
		}
		readAgain(t, joined(fields[:len(fields)-chance.Intn(1+len(fields)-f.least)]...))
	}
}

// TestBytesByChance: right lines with some bytes changed, put in or taken out.
func TestBytesByChance(t *testing.T) {
	chance := rand.New(rand.NewSource(900))
	lines := ordinaryLines()
	const letters = "RZLrzl-01239:aeSsuz%/+ \t\"#<>=_max\x00\xff"
	for range 100000 {
		s := joined(lines[chance.Intn(len(lines))]...)
		for range 1 + chance.Intn(3) {
			i, c := chance.Intn(len(s)), letters[chance.Intn(len(letters))]
			switch chance.Intn(3) {
			case 0:
				s = s[:i] + string([]byte{c}) + s[i+1:]
			case 1:
				s = s[:i] + string([]byte{c}) + s[i:]
			default:
				s = s[:i] + s[i+1:]
			}
		}
		readAgain(t, s)
	}
}

// spelt: the same fields in other ways, each with where its fields begin.
func spelt(fields []string) map[string][]int {
	ways := map[string][]int{}
	way := func(ahead, between, behind string, spell func(i int, s string) string) {
		s := ahead
		var cols []int
		for i, f := range fields {
			if i > 0 {
				s += between
			}
			cols = append(cols, len(s))
			s += spell(i, f)
		}
		ways[s+behind] = cols
	}
	asItIs := func(i int, s string) string { return joined(s) }
	quoted := func(i int, s string) string { return `"` + s + `"` }
	for _, white := range []string{" ", "\t", "\n", "\v", "\f", "\r", "  ", " \t"} {
		way("", white, "", asItIs)
		way(white, " ", white, asItIs)
		way(white, white, white+"#", quoted)
	}
	way("", " ", "# a note", asItIs)
	way("", " ", " #\"", asItIs)
	way("", " ", "#x", quoted)
	way("", " ", "", func(i int, s string) string { return `""` + joined(s) + `""` })
	way("", " ", "", func(i int, s string) string { return quoted(i, s[:len(s)/2]) + quoted(i, s[len(s)/2:]) })
	for n := range fields {
		way(" ", " ", "", func(i int, s string) string {
			if i == n {
				return quoted(i, s)
			}
			return joined(s)
		})
	}
	return ways
}

// TestOnlyFieldsCount: other white, quotes, and notes change nothing but the place of what is wrong.
func TestOnlyFieldsCount(t *testing.T) {
	all := ordinaryLines()
	for _, f := range shapes() {
		texts, _, _ := f.ordinary()
		all = append(all, texts[:f.least-1], append(slices.Clone(texts), "x"), append([]string{"foo"}, texts...))
		for i, x := range f.fields {
			for _, s := range x.wrong[:4] {
				all = append(all, with(texts, i+len(f.heads()), s))
			}
		}
	}
	for _, fields := range all {
		s, cols := join(fields...)
		want := line.Parse(s)
		for other, places := range spelt(fields) {
			if len(other) > 200 {
				continue
			}
			moved := want
			if want.Kind == 5 {
				moved.Col = places[slices.Index(cols, want.Col)]
			}
			same(t, fmt.Sprintf("Parse of %q", other), line.Parse(other), moved)
		}
	}
}

// TestColumnsAreThoseOfFields: what is wrong is at the begin of one, if 7 refuses nothing.
func TestColumnsAreThoseOfFields(t *testing.T) {
	for _, s := range []string{"  foo", "Link  A  -", "Link\tA\t/", " Zone A 1 - X 0", "R r 1 o x Jan 1 0 0 -", ` "Rule" r 1 o - Jan "3"2 0 0 -`, `0 - "" 1999`} {
		l := line.Parse(s)
		fields, _, _ := lexer.Fields(s)
		is(t, fmt.Sprintf("Kind of %q", s), l.Kind, 5)
		is(t, fmt.Sprintf("a field of %q at %d", s, l.Col), slices.ContainsFunc(fields, func(f lexer.Field) bool { return f.Col == l.Col }), true)
	}
}

func TestLinesStayAsTheyWere(t *testing.T) {
	b := []byte("Link Europe/London Europe/Jersey")
	l := line.Parse(string(b))
	s, _ := line.Show(l)
	line.Parse("Link X Y")
	line.Show(api.Line{})
	is(t, "a line behind other calls", l, api.Line{Kind: 4, Target: "Europe/London", Name: "Europe/Jersey"})
	is(t, "a text behind other calls", s, string(b))
}
