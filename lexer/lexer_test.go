package lexer_test

import (
	"fmt"
	"math/rand"
	"regexp"
	"slices"
	"strings"
	"testing"

	"noonmark/api"
	"noonmark/lexer"
)

func is(t *testing.T, what, got, want string) {
	t.Helper()
	if got != want {
		t.Errorf("%.300s: %.500s, not %.500s", what, got, want)
	}
}

// same is for long loops: it stops at the first fault.
func same(t *testing.T, what, got, want string) {
	t.Helper()
	if got != want {
		t.Fatalf("%.300s: %.500s, not %.500s", what, got, want)
	}
}

// toldFields, toldText: an answer as a text.

func toldFields(l []lexer.Field, col int, k api.Kind) string {
	var b strings.Builder
	for _, f := range l {
		fmt.Fprintf(&b, "%d:%q ", f.Col, f.S)
	}
	return b.String() + fmt.Sprint(col, " ", int(k))
}

func toldText(s string, k api.Kind) string { return fmt.Sprintf("%q %d", s, int(k)) }

func fields(line string) string { return toldFields(lexer.Fields(line)) }

func shown(l ...string) string { return toldText(lexer.Show(l)) }

const (
	noField  = "0 0"  // of Fields: a line without a field
	longLine = "0 17" // of Fields: too large
	noText   = `"" 1`
	longText = `"" 17`
)

// unclosed: what Fields answers of a quoted part without an end.
func unclosed(col int) string { return fmt.Sprint(col, " 9") }

const white = "\t\n\v\f\r "

// everyText calls f with every text of at most n of these letters.
func everyText(n int, letters []string, f func(s string)) {
	f("")
	if n == 0 {
		return
	}
	for _, x := range letters {
		everyText(n-1, letters, func(s string) { f(x + s) })
	}
}

// everyList calls f with every list of at most n of these texts.
func everyList(n int, texts []string, f func(l []string)) {
	f(nil)
	if n == 0 {
		return
	}
	for _, x := range texts {
		everyList(n-1, texts, func(l []string) { f(append([]string{x}, l...)) })
	}
}

// allBytes: each byte as a text.
func allBytes() []string {
	var l []string
	for i := range 256 {
		l = append(l, string([]byte{byte(i)}))
	}
	return l
}

// The patterns of the words: a field with white ahead, what may follow the last one, and a field that needs no quotes.
var (
	fieldAhead = regexp.MustCompile(`^[\x09-\x0d ]*((?:[^\x09-\x0d #"]|"[^"]*")+)`)
	whiteAhead = regexp.MustCompile(`^[\x09-\x0d ]*`)
	endAhead   = regexp.MustCompile(`(?s)^(?:#.*)?$`)
	noQuotes   = regexp.MustCompile(`^[^\x09-\x0d #"]+$`)
)

// model: what Fields answers, by the patterns: where no field goes on, and it is no end, a quoted part has none.
func model(line string) string {
	if len(line) > 200 {
		return longLine
	}
	var l []lexer.Field
	at := 0
	for m := fieldAhead.FindStringSubmatchIndex(line); m != nil; m = fieldAhead.FindStringSubmatchIndex(line[at:]) {
		l = append(l, lexer.Field{S: strings.ReplaceAll(line[at+m[2]:at+m[3]], `"`, ""), Col: at + m[2]})
		at += m[1]
	}
	at += len(whiteAhead.FindString(line[at:]))
	if !endAhead.MatchString(line[at:]) {
		return unclosed(at)
	}
	return toldFields(l, 0, api.OK)
}

// modelShow: what Show answers, by the patterns.
func modelShow(l []string) string {
	var texts []string
	for _, s := range l {
		if strings.Contains(s, `"`) {
			return noText
		}
		if !noQuotes.MatchString(s) {
			s = `"` + s + `"`
		}
		texts = append(texts, s)
	}
	line := strings.Join(texts, " ")
	if len(line) > 200 {
		return longText
	}
	return toldText(line, api.OK)
}

func asTheModel(t *testing.T, line string) {
	t.Helper()
	same(t, fmt.Sprintf("Fields of %q", line), fields(line), model(line))
}

// asTheModelShow holds Show against the model, and Fields of what it shows against its list.
func asTheModelShow(t *testing.T, l []string) {
	t.Helper()
	same(t, fmt.Sprintf("Show of %q", l), shown(l...), modelShow(l))
	isReadAgain(t, l)
}

func isReadAgain(t *testing.T, l []string) {
	t.Helper()
	line, k := lexer.Show(l)
	if k != api.OK {
		return
	}
	read, col, k := lexer.Fields(line)
	var texts []string
	for _, f := range read {
		texts = append(texts, f.S)
	}
	same(t, fmt.Sprintf("Fields of %q, shown of the list", line), fmt.Sprintf("%q %d %d", texts, col, int(k)), fmt.Sprintf("%q 0 0", l))
}

// P701: Fields.

func TestOrdinaryLines(t *testing.T) {
	for _, x := range []struct{ line, want string }{
		{`a "b c"d # e`, `0:"a" 2:"b cd" 0 0`},
		{"a", `0:"a" 0 0`}, {"ab", `0:"ab" 0 0`}, {"a b", `0:"a" 2:"b" 0 0`}, {"a  b", `0:"a" 3:"b" 0 0`}, {" a", `1:"a" 0 0`}, {"a ", `0:"a" 0 0`}, {"  a   bc  d ", `2:"a" 6:"bc" 10:"d" 0 0`}, {"\ta\tb\t", `1:"a" 3:"b" 0 0`}, {"a \t\r\n b", `0:"a" 6:"b" 0 0`},
		{"Rule EU 1981 max - Mar lastSun 1:00u 1:00 S", `0:"Rule" 5:"EU" 8:"1981" 13:"max" 17:"-" 19:"Mar" 23:"lastSun" 31:"1:00u" 37:"1:00" 42:"S" 0 0`},
		{"Zone\tEurope/Paris\t0:09:21 -\tLMT\t1891 Mar 16 # a note", `0:"Zone" 5:"Europe/Paris" 18:"0:09:21" 26:"-" 28:"LMT" 32:"1891" 37:"Mar" 41:"16" 0 0`},
		{"Link P Q#note", `0:"Link" 5:"P" 7:"Q" 0 0`},
		{"a\\b 'c d' `e`", `0:"a\\b" 4:"'c" 7:"d'" 10:"` + "`e`" + `" 0 0`},
	} {
		is(t, fmt.Sprintf("Fields of %q", x.line), fields(x.line), x.want)
	}
}

func TestLinesWithoutAField(t *testing.T) {
	lines := []string{"", white, white + white, "#", "##", "# a", "#a", `#"`, `#"a`, `#"a"`, "#\n", "#\na", " #", "\t#", " # a b", white + "#" + white, white + `#"`, strings.Repeat(" ", 200), strings.Repeat("#", 200), strings.Repeat("\n", 199) + "#"}
	for _, c := range white {
		lines = append(lines, string(c), string(c)+string(c), string(c)+"#", "#"+string(c), "#"+string(c)+"a")
	}
	for _, line := range lines {
		is(t, fmt.Sprintf("Fields of %q", line), fields(line), noField)
	}
}

// TestEveryByte: which bytes are white, which one ends the line, which one quotes; all others belong to a field.
func TestEveryByte(t *testing.T) {
	for _, c := range allBytes() {
		switch {
		case strings.Contains(white, c):
			is(t, fmt.Sprintf("Fields of %q ahead", c), fields(c+"a"), `1:"a" 0 0`)
			is(t, fmt.Sprintf("Fields of %q between", c), fields("a"+c+"b"), `0:"a" 2:"b" 0 0`)
			is(t, fmt.Sprintf("Fields of %q behind", c), fields("a"+c), `0:"a" 0 0`)
		case c == "#":
			is(t, "Fields of # ahead", fields("#a"), noField)
			is(t, "Fields of # between", fields("a#b"), `0:"a" 0 0`)
			is(t, "Fields of # behind", fields("a#"), `0:"a" 0 0`)
		case c == `"`:
			is(t, "Fields of a quote ahead", fields(`"a`), unclosed(0))
			is(t, "Fields of a quote between", fields(`a"b`), unclosed(1))
			is(t, "Fields of a quote behind", fields(`a"`), unclosed(1))
		default:
			is(t, fmt.Sprintf("Fields of %q", c), fields(c), fmt.Sprintf("0:%q 0 0", c))
			is(t, fmt.Sprintf("Fields of %q ahead", c), fields(c+"a"), fmt.Sprintf("0:%q 0 0", c+"a"))
			is(t, fmt.Sprintf("Fields of %q between", c), fields("a"+c+"b"), fmt.Sprintf("0:%q 0 0", "a"+c+"b"))
			is(t, fmt.Sprintf("Fields of %q behind", c), fields("a"+c), fmt.Sprintf("0:%q 0 0", "a"+c))
		}
		if c != `"` {
			is(t, fmt.Sprintf("Fields of %q in quotes", c), fields(`"`+c+`"`), fmt.Sprintf("0:%q 0 0", c))
			is(t, fmt.Sprintf("Fields of %q in quotes, within a field", c), fields(`a"b`+c+`d"e f`), fmt.Sprintf(`0:%q 8:"f" 0 0`, "ab"+c+"de"))
		}
	}
}

// TestBytesAboutWhite: the bytes just below and above each kind of it, and what is white elsewhere only.
func TestBytesAboutWhite(t *testing.T) {
	for _, c := range []string{"\x00", "\x07", "\x08", "\x0e", "\x0f", "\x1c", "\x1f", "!", "$", "'", "\x7f", "\x80", "\x85", "\x89", "\x8d", "\xa0", "\xff", "\u0085", "\u00a0", "\u2003", "\u2028", "\u3000", "\ufeff", "é", "＃", "＂", "“"} {
		is(t, fmt.Sprintf("Fields of %q", c), fields("a"+c+"b"), fmt.Sprintf("0:%q 0 0", "a"+c+"b"))
		is(t, fmt.Sprintf("Fields of %q alone", c), fields(" "+c+" "), fmt.Sprintf("1:%q 0 0", c))
	}
}

func TestNotes(t *testing.T) {
	for _, x := range []struct{ line, want string }{
		{"a # b", `0:"a" 0 0`}, {"a #b", `0:"a" 0 0`}, {"a#b", `0:"a" 0 0`}, {"a# b", `0:"a" 0 0`}, {"a## b", `0:"a" 0 0`}, {"a#\nb", `0:"a" 0 0`}, {"a\n#b\nc", `0:"a" 0 0`},
		{`a#"`, `0:"a" 0 0`}, {`a #"b`, `0:"a" 0 0`}, {`a # "b`, `0:"a" 0 0`}, {`a # "b" c`, `0:"a" 0 0`}, {`"a"#b`, `0:"a" 0 0`}, {`"a"#"`, `0:"a" 0 0`}, {`"a" #"`, `0:"a" 0 0`}, {`b"a"#c`, `0:"ba" 0 0`}, {`""#`, `0:"" 0 0`}, {`a""#b`, `0:"a" 0 0`},
		{`"#"`, `0:"#" 0 0`}, {`"# a" b`, `0:"# a" 6:"b" 0 0`}, {`a"#"b`, `0:"a#b" 0 0`}, {`a "b # c" d # e`, `0:"a" 2:"b # c" 10:"d" 0 0`}, {`"a#"#b`, `0:"a#" 0 0`}, {`"#"#"#"`, `0:"#" 0 0`},
	} {
		is(t, fmt.Sprintf("Fields of %q", x.line), fields(x.line), x.want)
	}
}

func TestQuotedParts(t *testing.T) {
	for _, x := range []struct{ line, want string }{
		{`""`, `0:"" 0 0`}, {` "" `, `1:"" 0 0`}, {`a ""`, `0:"a" 2:"" 0 0`}, {`"" a`, `0:"" 3:"a" 0 0`}, {`"" ""`, `0:"" 3:"" 0 0`}, {`"""""" a`, `0:"" 7:"a" 0 0`},
		{`a""`, `0:"a" 0 0`}, {`""a`, `0:"a" 0 0`}, {`a""b`, `0:"ab" 0 0`}, {`a""""b c`, `0:"ab" 7:"c" 0 0`}, {`""a""`, `0:"a" 0 0`},
		{`"a"`, `0:"a" 0 0`}, {`"a b"`, `0:"a b" 0 0`}, {`"a"b`, `0:"ab" 0 0`}, {`a"b"c`, `0:"abc" 0 0`}, {`a"b"`, `0:"ab" 0 0`}, {`a" "b c`, `0:"a b" 6:"c" 0 0`}, {`" a"`, `0:" a" 0 0`}, {`"a "b`, `0:"a b" 0 0`},
		{`"a""b"`, `0:"ab" 0 0`}, {`"a" "b"`, `0:"a" 4:"b" 0 0`}, {"\"a\"\t\"b\"", `0:"a" 4:"b" 0 0`}, {`"a b""c d" e`, `0:"a bc d" 11:"e" 0 0`}, {`"a"b"c"d"e"`, `0:"abcde" 0 0`}, {`x"a""b"y z`, `0:"xaby" 9:"z" 0 0`}, {`x"a"y"b"z`, `0:"xaybz" 0 0`}, {`"" "" a""`, `0:"" 3:"" 6:"a" 0 0`},
		{`" "`, `0:" " 0 0`}, {"\"\t\n\v\f\r \"", `0:"\t\n\v\f\r " 0 0`}, {"\"\n\"\n\"\n\"", `0:"\n" 4:"\n" 0 0`}, {`"\"`, `0:"\\" 0 0`}, {`"\" b`, `0:"\\" 4:"b" 0 0`}, {`"'"`, `0:"'" 0 0`},
		{`  "a" b"c" `, `2:"a" 6:"bc" 0 0`}, {"\"é ü\" ö", `0:"é ü" 8:"ö" 0 0`},
	} {
		is(t, fmt.Sprintf("Fields of %q", x.line), fields(x.line), x.want)
	}
}

func TestQuotedPartsWithoutAnEnd(t *testing.T) {
	for _, x := range []struct {
		line string
		col  int
	}{
		{`"`, 0}, {`"a`, 0}, {`"a b`, 0}, {` "`, 1}, {` "a`, 1}, {`a "`, 2}, {`x "y`, 2}, {`a b "c`, 4}, {"a\t\t\"c", 3}, {white + `"`, 6},
		{`a"`, 1}, {`ab"c`, 2}, {` ab"c d`, 3}, {`a b"`, 3}, {`a b"c d`, 3},
		{`"""`, 2}, {`"""a`, 2}, {`"a""`, 3}, {`"a""b`, 3}, {`"a"b"`, 4}, {`"a"b"c`, 4}, {`"a" "`, 4}, {`"a" "b`, 4}, {`"a" b"c`, 5}, {`"a b" "c d" "e f`, 12}, {`""""" a`, 4}, {`"" "`, 3}, {`a"b"c"d`, 5},
		{`"#`, 0}, {`"# a`, 0}, {`a"#`, 1}, {`a "# b`, 2}, {`"a"b"#`, 4}, {`"#" "#`, 4}, {`a "#`, 2}, {`a"b # c`, 1},
		{`" `, 0}, {"\"\t", 0}, {"\"\n", 0}, {"a\"\r\n", 1}, {`a " `, 2}, {`a"b `, 1}, {`a"b # `, 1},
		{`\"`, 1}, {`"\""`, 3}, {`'"'`, 1}, {"\x00\"", 1}, {"\xff\"", 1}, {"é\"", 2},
	} {
		is(t, fmt.Sprintf("Fields of %q", x.line), fields(x.line), unclosed(x.col))
	}
}

func TestColumns(t *testing.T) {
	for n := range 150 {
		head := strings.Repeat(" ", n)
		is(t, "Fields behind white", fields(head+"a"), fmt.Sprintf(`%d:"a" 0 0`, n))
		is(t, "Fields behind white, in quotes", fields(head+`"a"`), fmt.Sprintf(`%d:"a" 0 0`, n))
		is(t, "Fields behind white, without a byte", fields(head+`""`), fmt.Sprintf(`%d:"" 0 0`, n))
		is(t, "Fields behind white, unclosed", fields(head+`"a`), unclosed(n))
		is(t, "Fields behind white, unclosed within", fields(head+`ab"c d`), unclosed(n+2))
		word := strings.Repeat("x", n+1)
		is(t, "Fields behind a field", fields(word+" a"), fmt.Sprintf(`0:%q %d:"a" 0 0`, word, n+2))
		is(t, "Fields behind a quoted field", fields(`"`+word+`" a`), fmt.Sprintf(`0:%q %d:"a" 0 0`, word, n+4))
		is(t, "Fields behind a field, unclosed", fields(word+` "a`), unclosed(n+2))
		is(t, "Fields behind a quoted part, unclosed", fields(`"`+word+`""a`), unclosed(n+3))
	}
}

func TestLinesOfManyFields(t *testing.T) {
	want, quoted := "", ""
	for i := range 100 {
		want += fmt.Sprintf(`%d:"x" `, 2*i)
	}
	for i := range 66 {
		quoted += fmt.Sprintf(`%d:"" `, 3*i)
	}
	is(t, "Fields of 100 fields", fields(strings.Repeat("x ", 100)), want+"0 0")
	is(t, "Fields of 66 fields", fields(strings.Repeat(`"" `, 66)), quoted+"0 0")
}

func TestTheLargestLines(t *testing.T) {
	x := func(n int) string { return strings.Repeat("x", n) }
	for _, y := range []struct{ line, want string }{
		{x(200), fmt.Sprintf("0:%q 0 0", x(200))}, {x(199) + " ", fmt.Sprintf("0:%q 0 0", x(199))}, {" " + x(199), fmt.Sprintf("1:%q 0 0", x(199))}, {`"` + x(198) + `"`, fmt.Sprintf("0:%q 0 0", x(198))},
		{x(198) + " a", fmt.Sprintf(`0:%q 199:"a" 0 0`, x(198))}, {"#" + x(199), noField}, {"a#" + x(198), `0:"a" 0 0`}, {strings.Repeat(" ", 199) + "a", `199:"a" 0 0`}, {strings.Repeat(" ", 198) + `""`, `198:"" 0 0`},
		{`"` + x(199), unclosed(0)}, {x(199) + `"`, unclosed(199)}, {x(198) + ` "`, unclosed(199)}, {x(198) + `"a`, unclosed(198)}, {`"` + x(197) + `""`, unclosed(199)}, {strings.Repeat(`"`, 200), `0:"" 0 0`}, {"a" + strings.Repeat(`"`, 199), unclosed(199)},
	} {
		is(t, "how many bytes a line has", fmt.Sprint(len(y.line)), "200")
		is(t, fmt.Sprintf("Fields of %q", y.line), fields(y.line), y.want)
		for _, more := range []string{"x", " ", "#", `"`, "\n", "\x00", "\xff"} {
			is(t, fmt.Sprintf("Fields of %q", y.line+more), fields(y.line+more), longLine)
			is(t, fmt.Sprintf("Fields of %q", more+y.line), fields(more+y.line), longLine)
		}
	}
	for _, n := range []int{201, 202, 255, 256, 257, 400, 1 << 16, 1<<16 + 1, 1 << 24} {
		for _, c := range []string{"x", " ", "#", `"`, "\n"} {
			is(t, fmt.Sprintf("Fields of %d bytes %q", n, c), fields(strings.Repeat(c, n)), longLine)
		}
	}
}

func TestEveryShortLine(t *testing.T) {
	everyText(7, []string{"a", " ", "#", `"`}, func(s string) { asTheModel(t, s) })
	everyText(6, []string{"a", "\t", "\n", "#", `"`, "\xe9"}, func(s string) { asTheModel(t, s) })
}

func TestEveryLineOfTwoBytes(t *testing.T) {
	everyText(2, allBytes(), func(s string) {
		for _, line := range []string{s, "a" + s, s + "b", "a" + s + "b", `"` + s, `"` + s + `"`, `a"` + s + `"b`, "a " + s + " b", s + `"`, "#" + s} {
			asTheModel(t, line)
		}
	})
}

func TestEveryByteAtEveryPlace(t *testing.T) {
	for _, line := range []string{`ab "c d"e # f`, `"" a"b""c"d`, ` "a#b" c`, "Link P Q", `a "b c`} {
		for i := range line {
			for _, c := range allBytes() {
				asTheModel(t, line[:i]+c+line[i+1:])
				asTheModel(t, line[:i]+c+line[i:])
			}
			asTheModel(t, line[:i])
			asTheModel(t, line[i:])
		}
	}
}

func TestAnyLine(t *testing.T) {
	r := rand.New(rand.NewSource(7))
	parts := append(allBytes(), "a", "b", " ", " ", "\t", `"`, `"`, `"`, "#", `""`, `"a b"`, `"#"`, "word", "é", " # ")
	for range 200000 {
		var b strings.Builder
		for range r.Intn(30) {
			b.WriteString(parts[r.Intn(len(parts))])
		}
		asTheModel(t, b.String())
	}
	for range 20000 { // about the longest lines
		line := make([]byte, 195+r.Intn(12))
		for i := range line {
			line[i] = `aaaaab "#`[r.Intn(8+r.Intn(2))]
		}
		asTheModel(t, string(line))
	}
}

// P702: Show.

func TestShow(t *testing.T) {
	for _, x := range []struct {
		l    []string
		want string
	}{
		{nil, ``}, {[]string{}, ``}, {[]string{"a"}, `a`}, {[]string{"ab"}, `ab`}, {[]string{"a", "b"}, `a b`}, {[]string{"a", "b", "c", "d"}, `a b c d`},
		{[]string{""}, `""`}, {[]string{"", ""}, `"" ""`}, {[]string{"", "a"}, `"" a`}, {[]string{"a", ""}, `a ""`}, {[]string{"a", "", "b"}, `a "" b`}, {[]string{"", "", ""}, `"" "" ""`},
		{[]string{" "}, `" "`}, {[]string{"a b"}, `"a b"`}, {[]string{" a"}, `" a"`}, {[]string{"a "}, `"a "`}, {[]string{"a b", "c"}, `"a b" c`}, {[]string{"a", "b c"}, `a "b c"`}, {[]string{"a", "b c", "d"}, `a "b c" d`}, {[]string{"a b", "c d"}, `"a b" "c d"`},
		{[]string{"#"}, `"#"`}, {[]string{"#a"}, `"#a"`}, {[]string{"a#"}, `"a#"`}, {[]string{"a#b"}, `"a#b"`}, {[]string{"#", "a"}, `"#" a`}, {[]string{"a", "#"}, `a "#"`}, {[]string{"a", "#", "b"}, `a "#" b`},
		{[]string{"a", "", "b c", "#"}, `a "" "b c" "#"`}, {[]string{`\`}, `\`}, {[]string{"'"}, `'`}, {[]string{"a'b"}, `a'b`}, {[]string{"-"}, `-`}, {[]string{"é"}, `é`}, {[]string{"\u00a0"}, "\u00a0"}, {[]string{"\x00"}, "\x00"},
		{strings.Fields("Rule EU 1981 max - Mar lastSun 1:00u 1:00 S"), "Rule EU 1981 max - Mar lastSun 1:00u 1:00 S"},
	} {
		is(t, fmt.Sprintf("Show of %q", x.l), shown(x.l...), toldText(x.want, api.OK))
	}
}

func TestShowOfEveryByte(t *testing.T) {
	for _, c := range allBytes() {
		for _, s := range []string{c, c + "a", "a" + c, "a" + c + "b"} {
			text := s
			if strings.Contains(white+"#", c) {
				text = `"` + s + `"`
			}
			for _, x := range []struct {
				l    []string
				want string
			}{
				{[]string{s}, text}, {[]string{s, "x"}, text + " x"}, {[]string{"x", s}, "x " + text}, {[]string{"x", s, "y"}, "x " + text + " y"}, {[]string{s, s}, text + " " + text},
			} {
				want := toldText(x.want, api.OK)
				if c == `"` {
					want = noText
				}
				is(t, fmt.Sprintf("Show of %q", x.l), shown(x.l...), want)
			}
		}
	}
}

func TestShowOfAQuote(t *testing.T) {
	for _, s := range []string{`"`, `""`, `"a`, `a"`, `a"b`, `"a"`, `a "b`, `#"`, `\"`, "\n\"", "\xff\"", strings.Repeat("a", 300) + `"`, `"` + strings.Repeat("a", 300)} {
		for _, l := range [][]string{{s}, {s, "a"}, {"a", s}, {"a", s, "b"}, {"", s}, {s, s}, {"a b", "#", s}} {
			is(t, fmt.Sprintf("Show of %q", l), shown(l...), noText)
		}
	}
}

// TestTheLargestTexts: with the spaces and the quotes counted.
func TestTheLargestTexts(t *testing.T) {
	x := func(n int) string { return strings.Repeat("x", n) }
	many := func(n int, s string) []string { return slices.Repeat([]string{s}, n) }
	for _, y := range []struct {
		l    []string
		want string
	}{
		{[]string{x(200)}, x(200)}, {[]string{x(100), x(99)}, x(100) + " " + x(99)}, {[]string{x(198), "y"}, x(198) + " y"}, {[]string{"y", x(198)}, "y " + x(198)}, {[]string{"y", x(196), "z"}, "y " + x(196) + " z"},
		{[]string{x(197) + " "}, `"` + x(197) + ` "`}, {[]string{"#" + x(197)}, `"#` + x(197) + `"`}, {[]string{x(197), ""}, x(197) + ` ""`}, {[]string{"", x(197)}, `"" ` + x(197)}, {[]string{x(196), " "}, x(196) + ` " "`}, {[]string{"#", x(196)}, `"#" ` + x(196)},
		{append(many(99, "x"), "yz"), strings.Repeat("x ", 99) + "yz"}, {append(many(66, ""), "yz"), strings.Repeat(`"" `, 66) + "yz"}, {append(many(65, ""), "z", "#"), strings.Repeat(`"" `, 65) + `z "#"`}, {append(many(49, " "), "wxyz"), strings.Repeat(`" " `, 49) + "wxyz"},
	} {
		is(t, fmt.Sprintf("Show of a text of %d bytes, %q", len(y.want), y.l), shown(y.l...), toldText(y.want, api.OK))
		is(t, "how many bytes that has", fmt.Sprint(len(y.want)), "200")
		for i := range y.l {
			l := slices.Clone(y.l)
			l[i] += "x"
			if y.l[i] != "" && noQuotes.MatchString(y.l[i]) {
				is(t, fmt.Sprintf("Show of a byte more, %q", l), shown(l...), longText)
			}
			l[i] = y.l[i] + `"`
			is(t, fmt.Sprintf("Show of a quote more, %q", l), shown(l...), noText)
		}
		for _, more := range []string{"", "x", " "} {
			is(t, "Show of a field more", shown(append(slices.Clone(y.l), more)...), longText)
			is(t, "Show of a field more, ahead", shown(append([]string{more}, y.l...)...), longText)
		}
		is(t, "Show of a quote behind all", shown(append(slices.Clone(y.l), "x", `"`)...), noText)
		is(t, "Show of a quote ahead of all", shown(append([]string{`"`, "x"}, y.l...)...), noText)
	}
}

func TestTextsThatAreTooLarge(t *testing.T) {
	for _, c := range []string{"x", " ", "#", "\n", "\xff"} {
		for _, n := range []int{201, 202, 255, 256, 257, 1 << 16, 1 << 24} {
			s := strings.Repeat(c, n)
			is(t, fmt.Sprintf("Show of %d bytes %q", n, c), shown(s), longText)
			is(t, fmt.Sprintf("Show of %d bytes %q, behind others", n, c), shown("a", "", s), longText)
			is(t, fmt.Sprintf("Show of %d bytes %q, ahead of others", n, c), shown(s, "a", ""), longText)
			is(t, fmt.Sprintf("Show of %d bytes %q, and a quote", n, c), shown(s, `"`), noText)
			is(t, fmt.Sprintf("Show of a quote, and %d bytes %q", n, c), shown(`"`, s), noText)
		}
	}
	for _, n := range []int{199, 200} {
		for _, c := range []string{" ", "#", "\t"} {
			is(t, fmt.Sprintf("Show of %d bytes %q", n, c), shown(strings.Repeat(c, n)), longText)
		}
	}
	for _, s := range []string{"", "x", " ", "word"} {
		is(t, "Show of very many fields", shown(slices.Repeat([]string{s}, 1<<20)...), longText)
		is(t, "Show of very many fields and a quote", shown(append(slices.Repeat([]string{s}, 1<<20), `"`)...), noText)
	}
	is(t, "Show of 67 fields without a byte", shown(slices.Repeat([]string{""}, 67)...), toldText(strings.Repeat(`"" `, 66)+`""`, api.OK))
	is(t, "Show of 68 fields without a byte", shown(slices.Repeat([]string{""}, 68)...), longText)
	is(t, "Show of 100 fields of a byte", shown(slices.Repeat([]string{"x"}, 100)...), toldText(strings.Repeat("x ", 99)+"x", api.OK))
	is(t, "Show of 101 fields of a byte", shown(slices.Repeat([]string{"x"}, 101)...), longText)
}

func TestEveryShortList(t *testing.T) {
	var texts []string
	everyText(2, []string{"a", " ", "#", `"`, "\n"}, func(s string) { texts = append(texts, s) })
	everyList(3, texts, func(l []string) { asTheModelShow(t, l) })
	everyList(5, []string{"", "a", "b c", "#", "\t", "d\"e"}, func(l []string) { asTheModelShow(t, l) })
	everyText(2, allBytes(), func(s string) { asTheModelShow(t, []string{s}) })
}

// P703: laws.

func TestAnyListIsReadAgain(t *testing.T) {
	r := rand.New(rand.NewSource(703))
	right := 0
	for range 200000 {
		l := make([]string, r.Intn(9))
		for i := range l {
			b := make([]byte, r.Intn(1+r.Intn(40)))
			for j := range b {
				b[j] = byte(r.Intn(256))
				if r.Intn(3) > 0 {
					b[j] = "ab \t\n#'"[r.Intn(7)]
				}
			}
			l[i] = string(b)
		}
		if _, k := lexer.Show(l); k == api.OK {
			right++
		}
		asTheModelShow(t, l)
	}
	if right < 20000 {
		t.Errorf("only %d lists are shown", right)
	}
}

// TestWhatIsReadIsShownAsTheSame: the fields of any line have no quote, and are shown as a line of the same ones, if it is not too long.
func TestWhatIsReadIsShownAsTheSame(t *testing.T) {
	everyText(7, []string{"a", " ", "#", `"`}, func(s string) {
		read, _, k := lexer.Fields(s)
		if k != api.OK {
			return
		}
		l := []string{}
		for _, f := range read {
			l = append(l, f.S)
		}
		if _, k := lexer.Show(l); k != api.OK {
			t.Fatalf("Show of the fields %q of %q: kind %d", l, s, int(k))
		}
		isReadAgain(t, l)
	})
}

func TestShowLeavesWhatIsHandedIn(t *testing.T) {
	whole := []string{"a", "", "b c", "#", "spare", "room"}
	asItWas := slices.Clone(whole)
	for n := range len(whole) + 1 {
		lexer.Show(whole[:n])
		is(t, "the list behind Show", fmt.Sprintf("%q", whole), fmt.Sprintf("%q", asItWas))
	}
}

func TestAnswersShareNothing(t *testing.T) {
	line := `a "b c"d # e`
	first, _, _ := lexer.Fields(line)
	second, _, _ := lexer.Fields(line)
	for i := range first[:cap(first)] {
		first[:cap(first)][i] = lexer.Field{S: "?", Col: -1}
	}
	is(t, "an answer, another one written to", toldFields(second, 0, api.OK), `0:"a" 2:"b cd" 0 0`)
	is(t, "Fields behind that", fields(line), `0:"a" 2:"b cd" 0 0`)
}

func TestACallKeepsNothing(t *testing.T) {
	for range 3 {
		for _, s := range []string{`a "b c"d # e`, `"`, "", `a "b`, "a b", strings.Repeat("a", 201), `x"y`, `""`} {
			asTheModel(t, s)
		}
		is(t, "Show", shown("a", "b c"), `"a \"b c\"" 0`)
		is(t, "Show", shown(`"`), noText)
		is(t, "Show", shown(strings.Repeat("a", 201)), longText)
		is(t, "Show", shown("", "#"), `"\"\" \"#\"" 0`)
	}
}
