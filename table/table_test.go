package table_test

import (
	"fmt"
	"math"
	"math/rand"
	"reflect"
	"regexp"
	"slices"
	"strings"
	"testing"

	"noonmark/api"
	"noonmark/document"
	"noonmark/line"
	"noonmark/table"
)

func is(t *testing.T, what string, got, want any) {
	t.Helper()
	if fmt.Sprint(got) != fmt.Sprint(want) {
		t.Errorf("%s: %s, not %s", what, short(fmt.Sprint(got)), short(fmt.Sprint(want)))
	}
}

func short(s string) string {
	if len(s) > 300 {
		return s[:140] + " .. " + s[len(s)-140:]
	}
	return s
}

func quoted(s string) string { return short(fmt.Sprintf("%q", s)) }

// edit: from a place, up to another one.
func edit(at, col, endAt, endCol int, s string) table.Edit {
	return table.Edit{Line: at, Col: col, EndLine: endAt, EndCol: endCol, S: s}
}

func shown(e table.Edit) string {
	return fmt.Sprintf("an edit of %d, %d to %d, %d with %s", e.Line, e.Col, e.EndLine, e.EndCol, quoted(e.S))
}

// feeds: a text of n lines without a byte in them.
func feeds(n int) string { return strings.Repeat("\n", n-1) }

func made(t *testing.T, s string) *table.Table {
	t.Helper()
	x, k := table.New(s)
	if k != api.OK || x == nil {
		t.Fatalf("New of %s: kind %d", quoted(s), int(k))
	}
	return x
}

// done makes an edit that is to be OK.
func done(t *testing.T, x *table.Table, e table.Edit) {
	t.Helper()
	if k := x.Edit(e); k != api.OK {
		t.Fatalf("%s of %s: kind %d", shown(e), quoted(x.Text()), int(k))
	}
}

var returnAtEnd = regexp.MustCompile(`(?s)\r(\n|\z)`)

// linesOf: what the lines of a text say, from the words of chapters 3, 9 and 10.
func linesOf(s string) []api.Line {
	var l []api.Line
	for _, x := range strings.Split(returnAtEnd.ReplaceAllString(s, "$1"), "\n") {
		l = append(l, line.Parse(x))
	}
	return l
}

// plain: the document, a list of it without an element being nil.
func plain(d document.Doc) document.Doc {
	return document.Doc{Rules: filled(d.Rules), Zones: filled(d.Zones), Links: filled(d.Links), Diags: filled(d.Diags)}
}

func filled[T any](l []T) []T {
	if len(l) == 0 {
		return nil
	}
	return l
}

// holds: the table is one of s, of which so many lines were read. It stops at the first fault, since it is for long loops, too.
func holds(t *testing.T, what string, x *table.Table, s string, read int) {
	t.Helper()
	if got := x.Text(); got != s {
		t.Fatalf("%s: Text: %s, not %s", what, quoted(got), quoted(s))
	}
	l := linesOf(s)
	if got := x.Lines(); !slices.Equal(got, l) {
		t.Fatalf("%s: Lines of %s: %s, not %s", what, quoted(s), short(fmt.Sprint(got)), short(fmt.Sprint(l)))
	}
	if got, want := plain(x.Doc()), plain(document.Of(l)); !reflect.DeepEqual(got, want) {
		t.Fatalf("%s: Doc of %s: %+v, not %+v", what, quoted(s), got, want)
	}
	if got := x.Read(); got != read {
		t.Fatalf("%s: Read of %s: %d, not %d", what, quoted(s), got, read)
	}
}

// told: where everything of a document stands, and what is wrong there: "R0 Z1,2 L3 4:0 21".
func told(d document.Doc) string {
	var l []string
	for _, r := range d.Rules {
		l = append(l, fmt.Sprint("R", r.Line))
	}
	for _, z := range d.Zones {
		l = append(l, "Z"+strings.Trim(strings.ReplaceAll(fmt.Sprint(z.Lines), " ", ","), "[]"))
	}
	for _, x := range d.Links {
		l = append(l, fmt.Sprint("L", x.Line))
	}
	for _, x := range d.Diags {
		l = append(l, fmt.Sprintf("%s%d:%d %d", x.Doc, x.Line, x.Col, int(x.K)))
	}
	return strings.Join(l, " ")
}

// offset: how many bytes are ahead of a place; false: it is none.
func offset(s string, at, col int) (int, bool) {
	l := strings.SplitAfter(s, "\n")
	if at < 0 || at >= len(l) || col < 0 || col > len(strings.TrimSuffix(l[at], "\n")) {
		return 0, false
	}
	return len(strings.Join(l[:at], "")) + col, true
}

// model: what an edit makes of a text, from the words of the chapter.
func model(s string, e table.Edit) (string, api.Kind) {
	from, ok := offset(s, e.Line, e.Col)
	to, also := offset(s, e.EndLine, e.EndCol)
	if !ok || !also || from > to {
		return "", 2
	}
	next := s[:from] + e.S + s[to:]
	if len(next) > 20000 || strings.Count(next, "\n") >= 400 {
		return "", 17
	}
	return next, 0
}

// asTheModel edits a table of s, of which so many lines were read, and answers the text behind it, and how many were read then.
func asTheModel(t *testing.T, x *table.Table, s string, read int, e table.Edit) (string, int) {
	t.Helper()
	want, k := model(s, e)
	what := fmt.Sprintf("%s of %s", shown(e), quoted(s))
	if got := x.Edit(e); got != k {
		t.Fatalf("%s: kind %d, not %d", what, int(got), int(k))
	}
	if k != api.OK {
		holds(t, what, x, s, read)
		return s, read
	}
	read = 1 + strings.Count(e.S, "\n")
	holds(t, what, x, want, read)
	return want, read
}

// everyText calls f with every text of at most n of these bytes.
func everyText(n int, bytes string, f func(s string)) {
	f("")
	if n == 0 {
		return
	}
	for i := range len(bytes) {
		everyText(n-1, bytes, func(s string) { f(bytes[i:i+1] + s) })
	}
}

// wild: numbers that are no line and no column of any text; some would be, if their high bits were dropped.
var wild = []int{
	math.MinInt, math.MinInt + 1, -1 << 32, -1<<32 + 1, math.MinInt32, -20001, -401, -400, -256, -3, -2, -1,
	401, 20001, 1 << 16, 1 << 31, 1 << 32, 1<<32 + 1, math.MaxInt32, math.MaxInt - 1, math.MaxInt,
}

// source: lines of each kind, and wrong ones.
const source = `# Europe
Rule	EU	1981	max	-	Mar	lastSun	 1:00u	1:00	S
Rule	EU	1996	max	-	Oct	lastSun	 1:00u	0	-

Zone	Europe/Paris	0:09:21 -	LMT	1891 Mar 16
			0:09:21	-	PMT	1911 Mar 11
			1:00	EU	CE%sT
Link	Europe/Paris	Europe/Monaco
foo
Rule	EU	1981	max	-	Mar	lastSunday	 1:00u	1:00	S "
-1 - X
Zone	A	1:00	-	X	2000
`

// P1101: New, Text, Lines, Doc.

func TestNewOfTexts(t *testing.T) {
	for _, s := range []string{
		"", "a", "\n", "\n\n", "a\n", "\na", "a\nb", "a\nb\n", "\n\na\n\n", "\r", "\r\n", "\n\r", "\r\r\n", "a\r", "a\rb", "a\r\nb\r\n", "\ra\n\rb", "a\r\r\nb\r\r",
		" ", "\t#\n", "\x00", "\xff\n\xc3\r\n\xa9", "é\nß", "Zone A 0 - X", "Zone A 0 - X\r", "Zone A 0 - X 2000\n0 - Y", "Zone A 0 - X 2000\r\n\r\n0 - Y\r\n", "Link A \"B\nC\"", "Link A B\r\r\nLink A\rB",
		strings.Repeat(" ", 192) + "Link A B\r\n" + strings.Repeat(" ", 193) + "Link A B", strings.Repeat("x", 1000),
		source, strings.ReplaceAll(source, "\n", "\r\n"), source + source,
	} {
		holds(t, "New", made(t, s), s, 1+strings.Count(s, "\n"))
	}
}

func TestNewOfEveryShortText(t *testing.T) {
	everyText(6, "\n\r- ", func(s string) { holds(t, "New", made(t, s), s, 1+strings.Count(s, "\n")) })
	for c := range 256 {
		x := string([]byte{byte(c)})
		for _, s := range []string{x, x + "\n", "\n" + x, "Link A" + x + "B C", "Zone A 0 - X 2000\n" + x + "\n0 - Y" + x} {
			holds(t, "New", made(t, s), s, 1+strings.Count(s, "\n"))
		}
	}
}

// TestLinesAndDoc: what is told of a text, written out.
func TestLinesAndDoc(t *testing.T) {
	until := api.Until{Has: true, Year: 2000, Month: 1, On: api.Day{Day: 1}}
	first, last := api.Era{Off: 3600, Format: "X", Until: until}, api.Era{Off: -3600, Kind: 2, Rules: "EU", Format: "CE%sT"}
	rule := api.Rule{Name: "EU", From: 1981, To: 10000, Month: 3, On: api.Day{Kind: 1}, At: api.At{Sec: 3600, Kind: 2}, Save: 3600, Letter: "S"}
	x := made(t, "Zone A 1:00 - X 2000\r\n# note\n -1 EU CE%sT\nRule EU 1981 max - Mar lastSun 1:00u 1:00 S\r\nLink A B\n  0 - Y\n\nLink A -")
	is(t, "Lines", fmt.Sprintf("%+v", x.Lines()), fmt.Sprintf("%+v", []api.Line{
		{Kind: 2, Name: "A", Era: first}, {}, {Kind: 3, Era: last}, {Kind: 1, Rule: rule}, {Kind: 4, Target: "A", Name: "B"}, {Kind: 3, Era: api.Era{Format: "Y"}}, {}, {Kind: 5, Err: api.BadName, Col: 7},
	}))
	is(t, "Doc", fmt.Sprintf("%+v", x.Doc()), fmt.Sprintf("%+v", document.Doc{
		Rules: []document.Rule{{R: rule, Line: 3}},
		Zones: []document.Zone{{Name: "A", Eras: []api.Era{first, last}, Lines: []int{0, 2}}},
		Links: []document.Link{{Target: "A", Name: "B", Line: 4}},
		Diags: []api.Diag{{Line: 5, K: api.NoZone}, {Line: 7, Col: 7, K: api.BadName}},
	}))
}

func TestNewOfTheEmptyText(t *testing.T) {
	x := made(t, "")
	is(t, "Text", quoted(x.Text()), `""`)
	is(t, "Lines", fmt.Sprint(x.Lines()), fmt.Sprint([]api.Line{{}}))
	is(t, "Doc", told(x.Doc()), "")
	is(t, "Read", x.Read(), 1)
}

func TestNewAtLimits(t *testing.T) {
	is(t, "MaxDoc, MaxLines", fmt.Sprint(api.MaxDoc, api.MaxLines), "20000 400")
	full := strings.Repeat("x", 20000)
	for _, s := range []string{
		full[1:], full, full[1:] + "\n", "\n" + full[1:], full[1:] + "\r", strings.Repeat(" ", 20000), strings.Repeat("\r", 20000),
		feeds(399), feeds(400), strings.Repeat("\r\n", 399), strings.Repeat("\r\n", 399) + "\r", feeds(400) + full[399:], strings.Repeat(strings.Repeat("x", 49)+"\n", 399) + strings.Repeat("x", 50),
		strings.Repeat("Link A B\n", 399) + "Link A B", strings.Repeat("0 - X\n", 399),
	} {
		holds(t, "New", made(t, s), s, 1+strings.Count(s, "\n"))
	}
	for _, s := range []string{
		full + "x", full + "\n", "\n" + full, full + "\r", strings.Repeat("\r", 20001), full + full, strings.Repeat(full, 100),
		feeds(401), feeds(402), feeds(800), "x" + feeds(401), feeds(401) + "x", strings.Repeat("\r\n", 400), strings.Repeat("Link A B\n", 400), feeds(401) + full[400:], feeds(400) + full[398:], feeds(401) + full, feeds(20000), feeds(20001), feeds(20002), feeds(100000),
	} {
		x, k := table.New(s)
		if x != nil || k != api.TooLarge {
			t.Errorf("New of %d bytes, %d lines: %v, kind %d", len(s), 1+strings.Count(s, "\n"), x != nil, int(k))
		}
	}
}

func TestNil(t *testing.T) {
	var x *table.Table
	for _, e := range []table.Edit{{}, {S: "x"}, edit(0, 1, 0, 0, ""), edit(-1, 0, 0, 0, ""), {S: strings.Repeat("x", 20001)}, {S: feeds(401)}} {
		is(t, shown(e)+" of nil", int(x.Edit(e)), 20)
	}
	is(t, "Text, Lines, Doc, Read of nil", fmt.Sprintf("%q %d %+v %d", x.Text(), len(x.Lines()), x.Doc(), x.Read()), fmt.Sprintf("%q 0 %+v 0", "", document.Doc{}))
}

// TestTableThatNewDidNotMake: it is as one of the empty text.
func TestTableThatNewDidNotMake(t *testing.T) {
	var x table.Table
	is(t, "Text, Lines, Doc", fmt.Sprintf("%q %v %+v", x.Text(), x.Lines(), x.Doc()), fmt.Sprintf("%q %v %+v", "", []api.Line{{}}, document.Doc{}))
	_ = x.Read()
	for _, e := range []table.Edit{edit(0, 1, 0, 1, ""), edit(0, 0, 1, 0, ""), edit(-1, 0, 0, 0, "")} {
		is(t, shown(e), int(x.Edit(e)), 2)
	}
	done(t, &x, table.Edit{S: source})
	holds(t, "an edit of the zero table", &x, source, 1+strings.Count(source, "\n"))
}

// fill writes into the room behind a list.
func fill[T any](l []T, x T) {
	for i := len(l); i < cap(l); i++ {
		l[:cap(l)][i] = x
	}
}

// spoil writes into all that a document hands out, and behind it.
func spoil(d document.Doc) {
	for i, z := range d.Zones {
		fill(z.Eras, api.Era{Off: -1})
		fill(z.Lines, -1)
		clear(z.Eras)
		clear(z.Lines)
		d.Zones[i] = document.Zone{}
	}
	fill(d.Zones, document.Zone{Name: "-"})
	fill(d.Rules, document.Rule{Line: -1})
	fill(d.Links, document.Link{Line: -1})
	fill(d.Diags, api.Diag{Line: -1})
	clear(d.Rules)
	clear(d.Links)
	clear(d.Diags)
}

// answered: Lines and Doc, as a text.
func answered(l []api.Line, d document.Doc) string { return fmt.Sprintf("%+v %+v", l, d) }

// TestAnswersAreNew: what is written into an answer, or behind it, is seen neither by the table nor in another answer.
func TestAnswersAreNew(t *testing.T) {
	for _, s := range []string{"", "\n", "Zone A 0 - X", "Zone A 0 - X 2000\n0 - Y", source, source + source, strings.Repeat("Link A B\n", 300)} {
		for _, e := range []table.Edit{{}, {S: "Link C D\n"}, {S: "# "}, {S: "\nLink E F\n\n"}} {
			x := made(t, s)
			done(t, x, e)
			text, read := x.Text(), x.Read()
			l, d := x.Lines(), x.Doc()
			otherLines, otherDoc := x.Lines(), x.Doc()
			before := answered(l, d)
			fill(l, api.Line{Kind: 5})
			clear(l)
			spoil(d)
			what := shown(e) + " of " + quoted(s) + ", its answers written into"
			is(t, what+": the other answers", answered(otherLines, otherDoc), before)
			holds(t, what, x, text, read)
		}
	}
}

// TestAnswersStay: an answer is as it was, whatever is done behind it.
func TestAnswersStay(t *testing.T) {
	x := made(t, source)
	type answer struct {
		l    []api.Line
		d    document.Doc
		want string
	}
	var all []answer
	for _, e := range []table.Edit{{}, edit(0, 0, 0, 0, "Link A B\n"), edit(2, 0, 3, 0, ""), edit(0, 0, 0, 1, "k"), edit(4, 0, 7, 0, "Zone B 0 - X 2000\n1 - Y 2001\n2 - Z\n"), edit(0, 0, 11, 0, ""), {S: source}, {Line: -1}} {
		x.Edit(e)
		l, d := x.Lines(), x.Doc()
		all = append(all, answer{l, d, answered(l, d)})
	}
	for i, a := range all {
		is(t, fmt.Sprint("answers behind edit ", i), answered(a.l, a.d), a.want)
	}
}

// P1102, P1103: Edit, and how many lines are read for it.

func TestEdits(t *testing.T) {
	for _, c := range []struct {
		s    string
		e    table.Edit
		want string
		read int
	}{
		// the example of the chapter
		{"a\nb", edit(0, 1, 1, 0, ""), "ab", 1},
		// nothing by nothing
		{"", edit(0, 0, 0, 0, ""), "", 1}, {"a\nb", edit(0, 0, 0, 0, ""), "a\nb", 1}, {"a\nb", edit(0, 1, 0, 1, ""), "a\nb", 1}, {"a\nb", edit(1, 1, 1, 1, ""), "a\nb", 1}, {"\n\n", edit(1, 0, 1, 0, ""), "\n\n", 1},
		// at the begin, at the end, at a line's end
		{"", edit(0, 0, 0, 0, "x"), "x", 1}, {"ab", edit(0, 0, 0, 0, "x"), "xab", 1}, {"ab", edit(0, 2, 0, 2, "x"), "abx", 1}, {"a\nb\n", edit(2, 0, 2, 0, "x"), "a\nb\nx", 1}, {"ab\ncd", edit(0, 2, 0, 2, "x"), "abx\ncd", 1}, {"ab\ncd", edit(1, 0, 1, 0, "x"), "ab\nxcd", 1}, {"ab\ncd", edit(1, 2, 1, 2, "x"), "ab\ncdx", 1},
		// within a line
		{"abc", edit(0, 1, 0, 2, ""), "ac", 1}, {"abc", edit(0, 1, 0, 2, "xyz"), "axyzc", 1}, {"abc\nd", edit(0, 0, 0, 3, ""), "\nd", 1}, {"abc\nd", edit(0, 0, 0, 3, "x"), "x\nd", 1},
		// from one line into another
		{"ab\ncd\nef", edit(0, 1, 1, 1, ""), "ad\nef", 1}, {"ab\ncd\nef", edit(0, 1, 1, 1, "x"), "axd\nef", 1}, {"ab\ncd\nef", edit(0, 1, 2, 1, "x"), "axf", 1}, {"ab\ncd\nef", edit(1, 0, 2, 0, ""), "ab\nef", 1}, {"ab\ncd\nef", edit(1, 0, 2, 0, "x\n"), "ab\nx\nef", 2}, {"ab\ncd\nef", edit(0, 2, 1, 2, ""), "ab\nef", 1}, {"ab\ncd\nef", edit(1, 2, 2, 2, ""), "ab\ncd", 1}, {"ab\ncd\nef", edit(0, 2, 1, 0, "\n"), "ab\ncd\nef", 2},
		// over all the text
		{"ab\ncd", edit(0, 0, 1, 2, ""), "", 1}, {"ab\ncd", edit(0, 0, 1, 2, "ab\ncd"), "ab\ncd", 2}, {"ab\ncd\n", edit(0, 0, 2, 0, "x"), "x", 1}, {"\n\n\n", edit(0, 0, 3, 0, ""), "", 1}, {"", edit(0, 0, 0, 0, source), source, 13},
		// feeds: one, several, at the begin of what comes, at its end, with others around it
		{"", edit(0, 0, 0, 0, "\n"), "\n", 2}, {"ab", edit(0, 1, 0, 1, "\n"), "a\nb", 2}, {"ab", edit(0, 0, 0, 0, "\n"), "\nab", 2}, {"ab", edit(0, 2, 0, 2, "\n"), "ab\n", 2}, {"ab", edit(0, 1, 0, 1, "\n\n\n"), "a\n\n\nb", 4}, {"ab", edit(0, 1, 0, 1, "\nx"), "a\nxb", 2}, {"ab", edit(0, 1, 0, 1, "x\n"), "ax\nb", 2}, {"ab", edit(0, 1, 0, 1, "\nx\n"), "a\nx\nb", 3}, {"ab", edit(0, 1, 0, 1, "x\ny\nz"), "ax\ny\nzb", 3}, {"a\nb", edit(0, 1, 0, 1, "\n"), "a\n\nb", 2}, {"a\nb", edit(1, 0, 1, 0, "\n"), "a\n\nb", 2}, {"a\nb\nc", edit(0, 0, 2, 1, "\n"), "\n", 2}, {"a\nb\nc\nd", edit(1, 0, 2, 1, "x\ny\nz"), "a\nx\ny\nz\nd", 3},
		// carriage returns: at a line's end, within a line, alone, and parted from their feed
		{"a\r\nb", edit(0, 0, 0, 1, "x"), "x\r\nb", 1}, {"a\r\nb", edit(0, 1, 0, 1, "x"), "ax\r\nb", 1}, {"a\r\nb", edit(0, 2, 0, 2, "x"), "a\rx\nb", 1}, {"a\r\nb", edit(1, 0, 1, 0, "x"), "a\r\nxb", 1}, {"a\r\nb", edit(0, 2, 1, 0, ""), "a\rb", 1}, {"a\r\nb", edit(0, 1, 1, 0, ""), "ab", 1}, {"a\r\nb", edit(0, 1, 0, 2, ""), "a\nb", 1}, {"a\r\nb", edit(0, 1, 0, 1, "\n"), "a\n\r\nb", 2}, {"a\r\nb", edit(0, 2, 0, 2, "\n"), "a\r\n\nb", 2}, {"a\r\nb", edit(0, 2, 0, 2, "\r"), "a\r\r\nb", 1}, {"a\nb", edit(0, 1, 0, 1, "\r"), "a\r\nb", 1}, {"ab", edit(0, 1, 0, 1, "\r"), "a\rb", 1}, {"a\rb", edit(0, 2, 0, 2, "\n"), "a\r\nb", 2}, {"a\rb", edit(0, 1, 0, 1, "\n"), "a\n\rb", 2}, {"", edit(0, 0, 0, 0, "\r"), "\r", 1}, {"", edit(0, 0, 0, 0, "\r\n\r"), "\r\n\r", 2}, {"a\r", edit(0, 2, 0, 2, "b"), "a\rb", 1}, {"a\r\nb\r\nc", edit(0, 2, 1, 2, "\nx\r"), "a\r\nx\r\nc", 2},
		// bytes of any sort
		{"é", edit(0, 1, 0, 1, "\n"), "\xc3\n\xa9", 2}, {"\xff\x00", edit(0, 1, 0, 2, "\x80"), "\xff\x80", 1},
	} {
		what := fmt.Sprintf("%s of %q", shown(c.e), c.s)
		x := made(t, c.s)
		done(t, x, c.e)
		holds(t, what, x, c.want, c.read)
		asTheModel(t, made(t, c.s), c.s, 1+strings.Count(c.s, "\n"), c.e)
	}
}

// TestEveryEdit: of short texts, from each place, and from some that are none, to each other one.
func TestEveryEdit(t *testing.T) {
	var put []string
	everyText(2, "x\n\r", func(s string) { put = append(put, s) })
	everyText(3, "-\n\r", func(s string) {
		most := 1 + len(s)
		for n := range (most + 2) * (most + 2) * (most + 2) * (most + 2) {
			at := func() int { i := n % (most + 2); n /= most + 2; return i - 1 }
			e := edit(at(), at(), at(), at(), "")
			for _, e.S = range put {
				asTheModel(t, made(t, s), s, 1+strings.Count(s, "\n"), e)
			}
		}
	})
}

// refused: the edit is not made, and nothing has changed.
func refused(t *testing.T, x *table.Table, e table.Edit, want api.Kind) {
	t.Helper()
	text, read := x.Text(), x.Read()
	k := x.Edit(e)
	what := fmt.Sprintf("%s of %s", shown(e), quoted(text))
	is(t, what, int(k), int(want))
	holds(t, what, x, text, read)
}

func TestEditsOutOfRange(t *testing.T) {
	const s = "ab\n\ncde\r\n" // 0: ab, 1: none, 2: cde and a return, 3: none
	x := made(t, s)
	for _, e := range []table.Edit{
		// the first place is none
		edit(-1, 0, 0, 0, ""), edit(4, 0, 4, 0, ""), edit(4, 0, 3, 0, ""), edit(0, -1, 0, 0, ""), edit(0, 3, 1, 0, ""), edit(0, 3, 0, 3, ""), edit(1, 1, 2, 0, ""), edit(2, 5, 3, 0, ""), edit(3, 1, 3, 1, ""),
		// the last one is none
		edit(0, 0, -1, 0, ""), edit(0, 0, 4, 0, ""), edit(0, 0, 0, -1, ""), edit(0, 0, 0, 3, ""), edit(0, 0, 1, 1, ""), edit(0, 0, 1, -1, ""), edit(0, 0, 2, 5, ""), edit(0, 0, 3, 1, ""),
		// the first one is behind the last one
		edit(0, 1, 0, 0, ""), edit(0, 2, 0, 1, ""), edit(2, 4, 2, 3, ""), edit(1, 0, 0, 2, ""), edit(1, 0, 0, 0, ""), edit(2, 0, 1, 0, ""), edit(2, 0, 0, 1, ""), edit(3, 0, 2, 4, ""), edit(3, 0, 0, 0, ""),
	} {
		for _, e.S = range []string{"", "x", "\n", "a\r\nb", feeds(400), feeds(401), strings.Repeat("x", 20001)} {
			refused(t, x, e, api.Range)
		}
	}
	for _, n := range wild {
		for _, e := range []table.Edit{edit(n, 0, n, 0, "x"), edit(0, n, 0, n, "x"), edit(n, 0, 3, 0, "x"), edit(0, n, 3, 0, "x"), edit(0, 0, n, 0, "x"), edit(0, 0, 0, n, "x"), edit(2, 1, 2, n, "x"), edit(2, n, 2, 1, "x"), edit(n, n, n, n, "x"), edit(n, n, 0, 0, "x"), edit(0, 0, n, n, "x")} {
			refused(t, x, e, api.Range)
			refused(t, made(t, ""), e, api.Range)
			refused(t, made(t, source), e, api.Range)
		}
	}
}

// TestEditsAtLimits: what comes has as many bytes or lines as may be, or one more.
func TestEditsAtLimits(t *testing.T) {
	full := strings.Repeat("x", 20000)
	few := "ab\ncd\nef"
	for _, c := range []struct {
		s  string
		e  table.Edit
		is bool
	}{
		{"", edit(0, 0, 0, 0, full), true}, {"", edit(0, 0, 0, 0, full+"x"), false}, {"a", edit(0, 0, 0, 0, full), false}, {"a", edit(0, 0, 0, 1, full), true}, {"a", edit(0, 0, 0, 0, full[1:]), true}, {"a", edit(0, 1, 0, 1, full[1:]), true},
		{full, edit(0, 0, 0, 0, ""), true}, {full, edit(0, 20000, 0, 20000, ""), true}, {full, edit(0, 0, 0, 0, "x"), false}, {full, edit(0, 20000, 0, 20000, "\n"), false}, {full, edit(0, 9, 0, 9, "\r"), false}, {full, edit(0, 9, 0, 10, "\n"), true}, {full, edit(0, 9, 0, 10, "xy"), false}, {full, edit(0, 0, 0, 20000, full), true}, {full, edit(0, 0, 0, 20000, full+"x"), false}, {full, edit(0, 0, 0, 20000, ""), true},
		{few, edit(0, 1, 2, 1, full[2:]), true}, {few, edit(0, 1, 2, 1, full[1:]), false}, {few, edit(1, 0, 1, 0, full[8:]), true}, {few, edit(1, 0, 1, 0, full[7:]), false},
		{"", edit(0, 0, 0, 0, feeds(400)), true}, {"", edit(0, 0, 0, 0, feeds(401)), false}, {few, edit(1, 1, 1, 1, feeds(398)), true}, {few, edit(1, 1, 1, 1, feeds(399)), false}, {few, edit(0, 1, 2, 1, feeds(400)), true}, {few, edit(0, 1, 2, 1, feeds(401)), false}, {few, edit(0, 0, 1, 0, feeds(399)), true}, {few, edit(0, 0, 1, 0, feeds(400)), false},
		{feeds(400), edit(0, 0, 0, 0, ""), true}, {feeds(400), edit(0, 0, 0, 0, "x"), true}, {feeds(400), edit(0, 0, 0, 0, "\n"), false}, {feeds(400), edit(399, 0, 399, 0, "\n"), false}, {feeds(400), edit(200, 0, 201, 0, "x\ny"), true}, {feeds(400), edit(200, 0, 201, 0, "x\ny\nz"), false}, {feeds(400), edit(200, 0, 202, 0, "x\ny\n"), true}, {feeds(400), edit(0, 0, 399, 0, feeds(400)), true}, {feeds(400), edit(0, 0, 399, 0, feeds(401)), false}, {feeds(400), edit(0, 0, 399, 0, ""), true}, {feeds(400), edit(399, 0, 399, 0, "\r\r"), true},
		{feeds(400), edit(7, 0, 7, 0, full[399:]), true}, {feeds(400), edit(7, 0, 7, 0, full[398:]), false}, {feeds(400), edit(7, 0, 7, 0, "\n"+full), false}, {feeds(300), edit(7, 0, 7, 0, full+feeds(102)), false}, {"", edit(0, 0, 0, 0, strings.Repeat(full, 50)), false}, {"", edit(0, 0, 0, 0, feeds(1000000)), false},
	} {
		x := made(t, c.s)
		done(t, x, edit(0, 0, 0, 0, "")) // what was read then, 1, is to be seen behind what is refused
		asTheModel(t, x, c.s, 1, c.e)
		if !c.is {
			x = made(t, c.s)
			refused(t, x, c.e, api.TooLarge)
			x.Edit(edit(0, 0, 0, 0, ""))
			refused(t, x, c.e, api.TooLarge)
		} else if k := made(t, c.s).Edit(c.e); k != api.OK {
			t.Errorf("%s of %s: kind %d", shown(c.e), quoted(c.s), int(k))
		}
	}
}

// TestEditsBehindWhatIsRefused: a table that refused an edit takes the next one.
func TestEditsBehindWhatIsRefused(t *testing.T) {
	x, s, read := made(t, "ab\ncd"), "ab\ncd", 2
	for _, e := range []table.Edit{edit(0, 3, 0, 3, "x"), edit(0, 2, 0, 2, "x"), edit(0, 0, 0, 0, feeds(400)), edit(1, 0, 1, 0, feeds(399)), edit(1, 0, 1, 0, "\n"), edit(1, 2, 1, 1, ""), edit(3, 0, 398, 0, ""), edit(5, 0, 5, 0, strings.Repeat("x", 20000)), edit(4, 0, 4, 2, "y\nz"), edit(-1, 0, 0, 0, ""), edit(0, 0, 0, 0, "\n")} {
		s, read = asTheModel(t, x, s, read, e)
	}
}

func TestRead(t *testing.T) {
	x := made(t, source)
	is(t, "Read behind New", x.Read(), 13)
	for i, c := range []struct {
		e    table.Edit
		k    api.Kind
		read int
	}{
		{edit(0, 0, 13, 0, ""), api.Range, 13}, {edit(0, 0, 0, 0, feeds(401)), api.TooLarge, 13}, {edit(0, 0, 0, 0, ""), api.OK, 1}, {edit(0, 8, 0, 8, "\n\n"), api.OK, 3}, {edit(0, 9, 0, 9, "\n"), api.Range, 3}, {edit(0, 8, 0, 8, strings.Repeat("x", 20000)), api.TooLarge, 3}, {edit(0, 8, 2, 0, ""), api.OK, 1}, {edit(0, 8, 0, 8, feeds(388)), api.OK, 388}, {edit(0, 0, 0, 0, "\n"), api.TooLarge, 388}, {edit(0, 8, 387, 0, "\r\n"), api.OK, 2}, {edit(13, 0, 13, 0, "Link A B"), api.OK, 1}, {edit(0, 0, 13, 8, source), api.OK, 13}, {edit(0, 0, 12, 0, ""), api.OK, 1}, {edit(0, 0, 0, 0, ""), api.OK, 1},
	} {
		is(t, fmt.Sprint("edit ", i), int(x.Edit(c.e)), int(c.k))
		is(t, fmt.Sprint("Read behind edit ", i), x.Read(), c.read)
		is(t, fmt.Sprint("Read, asked again, behind edit ", i), x.Read(), c.read)
	}
}

// P1104: laws.

// TestEditsOfZones: an edit tells what lines that it does not touch are, though they are not read anew.
func TestEditsOfZones(t *testing.T) {
	const zone = "Zone A 0 - X 2000\n1 - Y 2001\n2 - Z\nLink A B"
	for _, c := range []struct {
		s, was string
		e      table.Edit
		want   string
		read   int
	}{
		// a zone is opened, parted, closed
		{"Zone A 0 - X\n1 - Y", "Z0 1:0 10", edit(0, 12, 0, 12, " 2000"), "Z0,1", 1},
		{"# A\n1 - Y\nLink A B", "L2 1:0 10", edit(0, 0, 0, 3, "Zone A 0 - X 2000"), "Z0,1 L2", 1},
		{zone, "Z0,1,2 L3", edit(0, 12, 0, 17, ""), "Z0 L3 1:0 10 2:0 10", 1},
		{zone, "Z0,1,2 L3", edit(1, 0, 1, 0, "Link A C\n"), "Z0 L1 L4 1:0 21 2:0 10 3:0 10", 2},
		{zone, "Z0,1,2 L3", edit(1, 0, 1, 0, "Zone C 0 - U 1999\n"), "Z0 Z1,2,3 L4 1:0 21", 2},
		{zone, "Z0,1,2 L3", edit(1, 0, 1, 0, "\n# note\n\n"), "Z0,4,5 L6", 4},
		{zone, "Z0,1,2 L3", edit(1, 5, 1, 10, ""), "Z0,1 L3 2:0 10", 1},
		{zone, "Z0,1,2 L3", edit(2, 5, 2, 5, " 2002"), "Z0,1,2 L3 3:0 21", 1},
		{zone, "Z0,1,2 L3", edit(2, 0, 3, 0, ""), "Z0,1 L2 2:0 21", 1},
		{zone, "Z0,1,2 L3", edit(1, 0, 2, 0, ""), "Z0,1 L2", 1},
		{zone, "Z0,1,2 L3", edit(0, 0, 0, 0, "#"), "L3 1:0 10 2:0 10", 1},
		{zone, "Z0,1,2 L3", edit(0, 0, 1, 0, ""), "L2 0:0 10 1:0 10", 1},
		{zone, "Z0,1,2 L3", edit(1, 0, 1, 1, "99"), "Z0,2 L3 1:0 7", 1},
		{zone, "Z0,1,2 L3", edit(3, 0, 3, 8, ""), "Z0,1,2", 1},
		// two lines are one, one is two
		{zone, "Z0,1,2 L3", edit(0, 17, 1, 0, " "), "L2 0:0 4 1:0 10", 1}, {"Link A\n B", "0:0 4 1:1 3", edit(0, 6, 1, 0, ""), "L0", 1}, {"Link A BLink A C", "0:0 4", edit(0, 8, 0, 8, "\n"), "L0 L1", 2}, {"Link A B", "L0", edit(0, 6, 0, 6, "\n"), "0:0 4 1:1 3", 2},
		// a line says something else
		{"Link A B", "L0", edit(0, 0, 0, 8, "foo"), "0:0 3", 1}, {"foo", "0:0 3", edit(0, 0, 0, 3, "Link A B"), "L0", 1}, {"Link A B", "L0", edit(0, 0, 0, 0, "# "), "", 1}, {"# Link A B", "", edit(0, 0, 0, 2, ""), "L0", 1}, {"Link A \"B", "0:7 9", edit(0, 9, 0, 9, "\""), "L0", 1}, {"Link A B", "L0", edit(0, 0, 0, 8, "Zone A 0 - X"), "Z0", 1}, {"Rule E 1990 only - Mar 1 0 0 S", "R0", edit(0, 7, 0, 11, "1990x"), "0:7 8", 1},
		{strings.Repeat(" ", 192) + "Link A B", "L0", edit(0, 0, 0, 0, " "), "0:0 17", 1}, {strings.Repeat(" ", 193) + "Link A B", "0:0 17", edit(0, 0, 0, 1, ""), "L0", 1},
		// carriage returns: none of a line's bytes at its end, white within it
		{"Link A \"B\"\r\n", "L0", edit(0, 11, 0, 11, "x"), "0:0 4", 1}, {"Link A B\r\nC", "L0 1:0 3", edit(0, 9, 1, 0, ""), "0:0 4", 1}, {"Link A\rB", "L0", edit(0, 7, 0, 7, "\n"), "0:0 4 1:0 3", 2}, {strings.Repeat(" ", 192) + "Link A B\r", "L0", edit(0, 201, 0, 201, "\r"), "0:0 17", 1}, {strings.Repeat(" ", 192) + "Link A B", "L0", edit(0, 200, 0, 200, "\r"), "L0", 1},
	} {
		x := made(t, c.s)
		what := fmt.Sprintf("%s of %s", shown(c.e), quoted(c.s))
		is(t, "Doc ahead of "+what, told(x.Doc()), c.was)
		done(t, x, c.e)
		is(t, "Doc behind "+what, told(x.Doc()), c.want)
		want, _ := model(c.s, c.e)
		holds(t, what, x, want, c.read)
	}
}

// TestManyErasByEdits: a zone that gets too many eras, and as many as may be again.
func TestManyErasByEdits(t *testing.T) {
	x := made(t, "Zone A 0 - X 1900\n9 - Z\n")
	for i := range 9 {
		done(t, x, edit(1, 0, 1, 0, fmt.Sprintf("1 - Y %d\n", 2000-i)))
	}
	is(t, "Doc of eleven eras", told(x.Doc()), "Z0,1,2,3,4,5,6,7 8:0 17 9:0 17 10:0 17")
	done(t, x, edit(3, 0, 6, 0, ""))
	is(t, "Doc of eight eras", told(x.Doc()), "Z0,1,2,3,4,5,6,7")
	holds(t, "eight eras", x, x.Text(), 1)
}

// chanceEdit: of a text, mostly of places of its own.
func chanceEdit(chance *rand.Rand, s string, put []string) table.Edit {
	l := strings.Split(s, "\n")
	place := func(from int) (int, int) {
		at := min(from+chance.Intn(4)*chance.Intn(2), len(l)-1)
		return at, chance.Intn(len(l[at]) + 1)
	}
	var e table.Edit
	e.Line, e.Col = place(chance.Intn(len(l)))
	e.EndLine, e.EndCol = place(e.Line)
	if e.EndLine == e.Line && chance.Intn(2) == 0 {
		e.EndCol = len(l[e.Line])
	}
	if chance.Intn(20) == 0 {
		e.EndCol += 2 - chance.Intn(5)
	}
	for range chance.Intn(4) {
		e.S += put[chance.Intn(len(put))]
	}
	return e
}

// TestEditsByChance: behind any edits, all is as of the text read from its begin on.
func TestEditsByChance(t *testing.T) {
	put := append(strings.SplitAfter(source, "\n"), "\n", "\n", "\r\n", "\r", " ", "#", "\"", "-", "0", "Zone", "Zone Z 0 - X 1999\n", "1 - Y 2000\r\n", "2 R Z%s\n", "Link A B", "Rule R 1999 only - Jan 1 0 1 S", "\x00", "\xff", "2001", "\n\n\n")
	for seed := range int64(40) {
		chance := rand.New(rand.NewSource(seed))
		s := strings.Repeat(source, chance.Intn(4))
		x, read := made(t, s), 1+strings.Count(s, "\n")
		for range 250 {
			s, read = asTheModel(t, x, s, read, chanceEdit(chance, s, put))
			fresh := made(t, s)
			if !slices.Equal(x.Lines(), fresh.Lines()) || !reflect.DeepEqual(x.Doc(), fresh.Doc()) || x.Text() != fresh.Text() {
				t.Fatalf("%q is not as New of it", s)
			}
		}
	}
}

// TestEditsAboutLimitsByChance: a text that is full takes some edits, and refuses others.
func TestEditsAboutLimitsByChance(t *testing.T) {
	for seed, put := range [][]string{{"\n", "\n\n\n", "x", "Link A B\n", ""}, {strings.Repeat("x", 70), strings.Repeat("y", 300) + "\n", "\r\n"}} {
		chance := rand.New(rand.NewSource(int64(seed)))
		s := []string{strings.Repeat("Link A B\n", 397), strings.Repeat(strings.Repeat("x", 99)+"\n", 199)}[seed]
		x, read := made(t, s), 1+strings.Count(s, "\n")
		no := 0
		for range 400 {
			e := chanceEdit(chance, s, put)
			if _, k := model(s, e); k == api.TooLarge {
				no++
			}
			s, read = asTheModel(t, x, s, read, e)
		}
		if no < 20 || no > 380 {
			t.Errorf("%d of 400 edits are too large, which tests little", no)
		}
	}
}

// back: the edit that undoes e, of the text s that it was made of.
func back(s string, e table.Edit) table.Edit {
	from, _ := offset(s, e.Line, e.Col)
	to, _ := offset(s, e.EndLine, e.EndCol)
	b := edit(e.Line, e.Col, e.Line, e.Col+len(e.S), s[from:to])
	if i := strings.LastIndex(e.S, "\n"); i >= 0 {
		b.EndLine, b.EndCol = e.Line+strings.Count(e.S, "\n"), len(e.S)-i-1
	}
	return b
}

// TestEditsAndBack: what was undone is as it was.
func TestEditsAndBack(t *testing.T) {
	put := append(strings.SplitAfter(source, "\n"), "\n", "\r\n", "x", "\r")
	for seed := range int64(20) {
		chance := rand.New(rand.NewSource(100 + seed))
		x := made(t, source+source)
		first := answered(x.Lines(), x.Doc())
		var all []table.Edit
		for len(all) < 60 {
			s, e := x.Text(), chanceEdit(chance, x.Text(), put)
			if x.Edit(e) == api.OK {
				all = append(all, back(s, e))
			}
		}
		for _, e := range slices.Backward(all) {
			done(t, x, e)
		}
		is(t, "the text behind edits and back", x.Text(), source+source)
		is(t, "lines and document behind edits and back", answered(x.Lines(), x.Doc()), first)
	}
}

// TestTablesShareNothing: neither two of one text nor one and what was copied of it.
func TestTablesShareNothing(t *testing.T) {
	x, y := made(t, source), made(t, source)
	z := *x
	done(t, x, edit(5, 0, 6, 0, "Link C D\n"))
	done(t, x, edit(0, 0, 0, 0, "Link E F"))
	text := x.Text()
	holds(t, "a table of the same text", y, source, 13)
	holds(t, "a copy", &z, source, 13)
	done(t, y, edit(0, 0, 12, 0, ""))
	done(t, &z, edit(4, 0, 6, 0, ""))
	done(t, &z, edit(3, 0, 3, 0, "Link G H"))
	holds(t, "the first table", x, text, 1)
	holds(t, "the table of the same text", y, "", 1)
	holds(t, "the copy", &z, z.Text(), 1)
}
