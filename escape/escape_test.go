package escape_test

import (
	"fmt"
	"math"
	"math/big"
	"slices"
	"strconv"
	"strings"
	"testing"

	"noonmark/api"
	"noonmark/escape"
)

func is(t *testing.T, what, got, want string) {
	t.Helper()
	if got != want {
		t.Errorf("%s: %s, not %s", short(what), short(got), short(want))
	}
}

func short(s string) string {
	if len(s) > 200 {
		return s[:90] + " .. " + s[len(s)-90:]
	}
	return s
}

// toldInt, toldText, toldFields: an answer as a text.

func toldInt(n int64, k api.Kind) string { return fmt.Sprint(n, " ", int(k)) }

func toldText(s string, n int, k api.Kind) string { return fmt.Sprintf("%q %d %d", s, n, int(k)) }

func toldFields(l []string, k api.Kind) string { return fmt.Sprintf("%q %d", l, int(k)) }

func parsed(s string) string { return toldInt(escape.ParseInt(s)) }

func unquoted(s string) string { return toldText(escape.Unquote(s)) }

func fields(s string) string { return toldFields(escape.Fields(s)) }

// everyText calls f with every text of at most n of these bytes.
func everyText(n int, letters string, f func(s string)) {
	f("")
	if n == 0 {
		return
	}
	for i := range len(letters) {
		everyText(n-1, letters, func(s string) { f(letters[i:i+1] + s) })
	}
}

// allBytes: 0 to 255.
func allBytes() string {
	var b []byte
	for i := range 256 {
		b = append(b, byte(i))
	}
	return string(b)
}

// units: how each byte stands in a quoted text.
func units() []string {
	var l []string
	for i := range 256 {
		switch {
		case i == '"':
			l = append(l, `\"`)
		case i == '\\':
			l = append(l, `\\`)
		case i == '\n':
			l = append(l, `\n`)
		case i == '\t':
			l = append(l, `\t`)
		case i >= 32 && i <= 126:
			l = append(l, string(rune(i)))
		default:
			l = append(l, fmt.Sprintf(`\x%02x`, i))
		}
	}
	return l
}

// modelUnquote tries all units at each place: where none stands, s is unclosed if it ends with the begin of one, else wrong.
func modelUnquote(u []string, s string) (string, int, api.Kind) {
	if !strings.HasPrefix(s, `"`) {
		return "", 0, api.Syntax
	}
	var text []byte
	at := 1
	for at < len(s) && s[at] != '"' {
		c := slices.IndexFunc(u, func(x string) bool { return strings.HasPrefix(s[at:], x) })
		if c < 0 && slices.ContainsFunc(u, func(x string) bool { return strings.HasPrefix(x, s[at:]) }) {
			return "", 0, api.Unclosed
		}
		if c < 0 {
			return "", 0, api.Syntax
		}
		text = append(text, byte(c))
		at += len(u[c])
	}
	if at == len(s) {
		return "", 0, api.Unclosed
	}
	return string(text), at + 1, api.OK
}

func modelFields(u []string, s string) ([]string, api.Kind) {
	var l []string
	for s != "" || len(l) > 0 {
		field, n, k := modelUnquote(u, s)
		if !strings.HasPrefix(s, `"`) {
			n = strings.IndexFunc(s+" ", func(c rune) bool { return c < '!' || c > '~' })
			field, k = s[:n], api.OK
		}
		if k != api.OK || n == 0 {
			return nil, max(k, api.Syntax)
		}
		l = append(l, field)
		if n == len(s) {
			break
		}
		if s[n] != ' ' {
			return nil, api.Syntax
		}
		s = s[n+1:]
	}
	return l, api.OK
}

// P201: Int, ParseInt.

func TestIntInDecimalDigits(t *testing.T) {
	for _, x := range []struct {
		n    int64
		want string
	}{
		{0, "0"}, {1, "1"}, {9, "9"}, {10, "10"}, {42, "42"}, {100, "100"}, {1234567890, "1234567890"},
		{-1, "-1"}, {-9, "-9"}, {-10, "-10"}, {-100, "-100"},
		{math.MaxInt64, "9223372036854775807"}, {math.MaxInt64 - 1, "9223372036854775806"},
		{math.MinInt64, "-9223372036854775808"}, {math.MinInt64 + 1, "-9223372036854775807"},
		{math.MaxInt32, "2147483647"}, {math.MaxInt32 + 1, "2147483648"},
		{math.MinInt32, "-2147483648"}, {math.MinInt32 - 1, "-2147483649"},
	} {
		is(t, "Int of "+x.want, escape.Int(x.n), x.want)
		is(t, "ParseInt of "+x.want, parsed(x.want), x.want+" 0")
	}
}

func TestParseIntBeyondInt64(t *testing.T) {
	nines := strings.Repeat("9", 100000)
	for _, s := range []string{
		"9223372036854775808", "-9223372036854775809", "9223372036854775810", "9300000000000000000", "-9300000000000000000",
		"9999999999999999999", "-9999999999999999999", "10000000000000000000", "-10000000000000000000",
		"18446744073709551615", "18446744073709551616", "18446744073709551617", "-18446744073709551616", "-18446744073709551615",
		nines, "-" + nines,
	} {
		is(t, "ParseInt of "+s, parsed(s), "0 2")
	}
}

func TestParseIntOfWhatIntDoesNotShow(t *testing.T) {
	nines := strings.Repeat("9", 100000)
	for _, s := range []string{
		"", "-", "--", "--1", "-0", "00", "01", "-01", "-00", "000", "007", "+", "+0", "+1", "-+1",
		"a", "1a", "a1", "0a", "-a", "-1a", "1-", "1-1", "0-", " ", " 1", "1 ", "- 1", "1\n", "\n1", "1 2",
		"0x1", "0b1", "0o7", "1_0", "1e3", "1.0", "1.", ".5", "1,000", "0_1", "Inf", "nil",
		"\x00", "1\x00", "\xb1", "1\xff", "٣", "１", "−1", "/", ":", "1/", "1:", "-/", "-:",
		"09223372036854775808", "-09223372036854775809", "9223372036854775808a", "a9223372036854775808", "+9223372036854775808",
		nines + "a", "0" + nines, "-0" + nines, nines + "-",
	} {
		is(t, "ParseInt of "+strconv.Quote(s), parsed(s), "0 3")
	}
}

// modelInt: by whole numbers without an end.
func modelInt(s string) (int64, api.Kind) {
	n, ok := new(big.Int).SetString(s, 10)
	if !ok || n.String() != s {
		return 0, api.Syntax
	}
	if !n.IsInt64() {
		return 0, api.Range
	}
	return n.Int64(), api.OK
}

func TestParseIntAsTheWordsSay(t *testing.T) {
	everyText(5, "-+019a ", func(s string) {
		is(t, "ParseInt of "+strconv.Quote(s), parsed(s), toldInt(modelInt(s)))
	})
	everyText(2, allBytes(), func(s string) {
		is(t, "ParseInt of "+strconv.Quote(s), parsed(s), toldInt(modelInt(s)))
	})
	for _, edge := range []string{"9223372036854775807", "-9223372036854775808", "0", "18446744073709551616", "-18446744073709551616"} {
		n, _ := new(big.Int).SetString(edge, 10)
		for d := int64(-300); d <= 300; d++ {
			s := new(big.Int).Add(n, big.NewInt(d)).String()
			is(t, "ParseInt of "+s, parsed(s), toldInt(modelInt(s)))
			s = "0" + s
			is(t, "ParseInt of "+s, parsed(s), toldInt(modelInt(s)))
		}
	}
}

// P202: Quote, Unquote.

func TestQuote(t *testing.T) {
	for _, x := range []struct{ s, want string }{
		{"", `""`}, {"a", `"a"`}, {"b c", `"b c"`}, {" ", `" "`}, {"\n", `"\n"`}, {"\t", `"\t"`},
		{`"`, `"\""`}, {`\`, `"\\"`}, {`\n`, `"\\n"`}, {`\x0a`, `"\\x0a"`}, {`'`, `"'"`}, {"~", `"~"`},
		{"\x00", `"\x00"`}, {"\x1f", `"\x1f"`}, {"\x7f", `"\x7f"`}, {"\x80", `"\x80"`}, {"\xff", `"\xff"`},
		{"\r", `"\x0d"`}, {"\b\v\f\a", `"\x08\x0b\x0c\x07"`}, {"\xab\xcd\xef", `"\xab\xcd\xef"`},
		{"é", `"\xc3\xa9"`}, {"a\"\\\n\t\x01~", `"a\"\\\n\t\x01~"`}, {"two\nlines\n", `"two\nlines\n"`},
	} {
		is(t, "Quote of "+strconv.Quote(x.s), escape.Quote(x.s), x.want)
		is(t, "Unquote of "+x.want, unquoted(x.want), toldText(x.s, len(x.want), api.OK))
	}
}

func TestEveryByteQuotedAndReadAgain(t *testing.T) {
	u := units()
	var all strings.Builder
	for i, x := range u {
		c := string([]byte{byte(i)})
		is(t, "Quote of byte "+strconv.Itoa(i), escape.Quote(c), `"`+x+`"`)
		is(t, "Quote of byte "+strconv.Itoa(i)+" in a text", escape.Quote("a"+c+c+"b"), `"a`+x+x+`b"`)
		is(t, "Unquote of byte "+strconv.Itoa(i), unquoted(`"`+x+`"`), toldText(c, len(x)+2, api.OK))
		all.WriteString(x)
	}
	whole := `"` + all.String() + `"`
	is(t, "Quote of all bytes", escape.Quote(allBytes()), whole)
	is(t, "Unquote of all bytes", unquoted(whole), toldText(allBytes(), len(whole), api.OK))
}

func TestUnquoteTakesWhatIsQuotedAtTheBegin(t *testing.T) {
	for _, x := range []struct{ s, text string }{
		{`"a"`, "a"}, {`"a" `, "a"}, {`"a"b`, "a"}, {`"a""b"`, "a"}, {`"a"\`, "a"}, {`"a"` + "\x00\n", "a"},
		{`""`, ""}, {`"""`, ""}, {`""""`, ""}, {`""a`, ""}, {`"" ""`, ""},
		{`"\"" "`, `"`}, {`"\\" "`, `\`}, {`"\\\"" "`, `\"`}, {`"\\n" "`, `\n`}, {`"\x00"00`, "\x00"}, {`"a b" c`, "a b"},
		{`"\n\t"\n`, "\n\t"}, {`"\x000"`, "\x000"}, {`"\x0dd"`, "\rd"},
	} {
		n := len(escape.Quote(x.text))
		is(t, "Unquote of "+strconv.Quote(x.s), unquoted(x.s), toldText(x.text, n, api.OK))
		is(t, "what Unquote takes of "+strconv.Quote(x.s), x.s[:n], escape.Quote(x.text))
	}
}

func TestUnquoteSyntax(t *testing.T) {
	for _, s := range []string{
		// no " at the begin
		"", "x", "a\"", ` "a"`, `\"a"`, `'a'`, "\n\"a\"", "\x00", `a"b"`, `\`,
		// a byte that Quote does not write
		"\"\n\"", "\"\t\"", "\"\r\"", "\"\x00\"", "\"\x1f\"", "\"\x7f\"", "\"\x80\"", "\"\xff\"", "\"é\"", "\"a\n", "\"\x7f", "\"\\n\n\"",
		// what follows a \ is none that Quote writes
		`"\a"`, `"\r"`, `"\0"`, `"\'"`, `"\ "`, `"\/"`, `"\N"`, `"\T"`, `"\X00"`, `"\u0041"`, `"\b"`, `"\f"`, `"\v"`, `"\001"`, "\"\\\n\"", "\"\\\x00\"", "\"\\\xff\"",
		`"\a`, `"\0`, `"\ `, `"\N`,
		// an escape that Quote does not write for its byte
		`"\x41"`, `"\x0a"`, `"\x09"`, `"\x20"`, `"\x22"`, `"\x5c"`, `"\x7e"`, `"\x61"`, `"\x30"`,
		`"\x0A"`, `"\x0D"`, `"\x1F"`, `"\x7F"`, `"\xFF"`, `"\xfF"`, `"\xFf"`, `"\xAb"`, `"\xaB"`,
		`"\x41`, `"\x0a`, `"\x09`, `"\x7e`, `"\x0A`, `"\xF`, `"\x4`, `"\x2`, `"\x3`, `"\x5`, `"\x6`,
		// an escape that has no two digits
		`"\x"`, `"\x0"`, `"\x1"`, `"\xg0"`, `"\x0g"`, `"\x 0"`, `"\x0 "`, `"\x/0"`, `"\x:0"`, "\"\\x`0\"", `"\x0/"`, `"\x0:"`, "\"\\x0`\"", `"\x+1"`, `"\x-1"`, `"\x0x"`, `"\x\"`, `"\x0\"`,
		`"\xg`, `"\x0g`, `"\x0\`, `"\x\`,
		// wrong ahead of an end, and ahead of an end that is missing
		`"ab\qcd"`, `"ab\qcd`, "\"ab\ncd", `"\x41\`, "\"\x00\\",
	} {
		is(t, "Unquote of "+strconv.Quote(s), unquoted(s), `"" 0 3`)
		if strings.HasPrefix(s, `"`) {
			is(t, "Fields of "+strconv.Quote(s), fields(s), "[] 3")
			is(t, "Fields of "+strconv.Quote("a "+s), fields("a "+s), "[] 3")
		}
	}
}

func TestUnquoteUnclosed(t *testing.T) {
	for _, s := range []string{
		`"`, `"a`, `"abc`, `"a b c `, `"\`, `"a\`, `"\\`, `"\\\`, `"\"`, `"\\\"`, `"\n`, `"\t`, `"\n\`,
		`"\x`, `"\x0`, `"\x1`, `"\x7`, `"\x8`, `"\x9`, `"\xa`, `"\xf`, `"\x00`, `"\x0d`, `"\x7f`, `"\xff`, `"\x00\x`, `"\x00\x0`,
	} {
		is(t, "Unquote of "+strconv.Quote(s), unquoted(s), `"" 0 9`)
		is(t, "Fields of "+strconv.Quote(s), fields(s), "[] 9")
		is(t, "Fields of "+strconv.Quote("a "+s), fields("a "+s), "[] 9")
	}
}

func TestAQuotedTextCutAnywhere(t *testing.T) {
	for _, s := range []string{"", "a", "abc d", "a\"\\\n\t\x01~", allBytes(), `\\\\`, `""""`, "two\nlines\n"} {
		q := escape.Quote(s)
		is(t, "Unquote of nothing", unquoted(q[:0]), `"" 0 3`)
		for i := 1; i < len(q); i++ {
			is(t, "Unquote of "+strconv.Quote(q[:i]), unquoted(q[:i]), `"" 0 9`)
			is(t, "Fields of "+strconv.Quote(q[:i]), fields(q[:i]), "[] 9")
			is(t, "Fields of "+strconv.Quote("x "+q[:i]), fields("x "+q[:i]), "[] 9")
		}
	}
}

func TestEveryEscape(t *testing.T) {
	u := units()
	same := func(s string) {
		is(t, "Unquote of "+strconv.Quote(s), unquoted(s), toldText(modelUnquote(u, s)))
	}
	everyText(2, allBytes(), func(s string) {
		same(`"\x` + s)
		same(`"\x` + s + `"`)
	})
	for i := range 256 {
		c := string([]byte{byte(i)})
		for _, s := range []string{c, `"` + c, `"` + c + `"`, `"\` + c, `"\` + c + `"`, `"a` + c + `b"`, `"a"` + c} {
			same(s)
		}
	}
}

func TestUnquoteAsTheWordsSay(t *testing.T) {
	u := units()
	everyText(6, "\"\\x0an", func(s string) {
		is(t, "Unquote of "+strconv.Quote(`"`+s), unquoted(`"`+s), toldText(modelUnquote(u, `"`+s)))
	})
}

func TestLongTexts(t *testing.T) {
	for _, s := range []string{strings.Repeat("a", 1<<20), strings.Repeat("\x00\"", 1<<18), strings.Repeat("\n \\", 1<<18)} {
		q := escape.Quote(s)
		is(t, "Unquote", unquoted(q+q), toldText(s, len(q), api.OK))
		is(t, "Unquote, cut", unquoted(q[:len(q)-1]), `"" 0 9`)
		is(t, "Unquote, wrong", unquoted(q[:len(q)-1]+"\n"), `"" 0 3`)
		is(t, "Fields", fields(q+" "+q), toldFields([]string{s, s}, api.OK))
		is(t, "Fields, wrong", fields(q+" "+q+" "), "[] 3")
	}
	many := slices.Repeat([]string{"a", "b c"}, 1<<16)
	is(t, "Fields of many", fields(escape.Join(many)), toldFields(many, api.OK))
}

// P203: Fields, Join.

func TestFields(t *testing.T) {
	for _, x := range []struct {
		s    string
		want []string
	}{
		{"", nil}, {`""`, []string{""}}, {`"" ""`, []string{"", ""}}, {`a "" b`, []string{"a", "", "b"}},
		{"a", []string{"a"}}, {"a b", []string{"a", "b"}}, {`a "b c"`, []string{"a", "b c"}}, {`"b c" a`, []string{"b c", "a"}},
		{`a "b c" ""`, []string{"a", "b c", ""}}, {`open d "Zone A 0 - UTC\n"`, []string{"open", "d", "Zone A 0 - UTC\n"}},
		{`" "`, []string{" "}}, {`" " " "`, []string{" ", " "}}, {`"\"" "\\"`, []string{`"`, `\`}},
		// a plain field with a quote in it
		{`a"`, []string{`a"`}}, {`a"b`, []string{`a"b`}}, {`a"b c"d`, []string{`a"b`, `c"d`}}, {`a"" b`, []string{`a""`, "b"}}, {`\"`, []string{`\"`}}, {`a" "b"`, []string{`a"`, "b"}},
		// of a plain field no byte is an escape
		{`\n`, []string{`\n`}}, {`\x41`, []string{`\x41`}}, {`\`, []string{`\`}}, {`a\ b`, []string{`a\`, "b"}},
		{"!", []string{"!"}}, {"~", []string{"~"}}, {"!~ ~!", []string{"!~", "~!"}}, {"#", []string{"#"}},
		// a quoted text that could be plain
		{`"a"`, []string{"a"}}, {`"a" b "c"`, []string{"a", "b", "c"}},
	} {
		is(t, "Fields of "+strconv.Quote(x.s), fields(x.s), toldFields(x.want, api.OK))
	}
}

func TestFieldsSyntax(t *testing.T) {
	for _, s := range []string{
		// a space too many, at the begin, in the midst, at the end
		" ", "  ", " a", "  a", "a ", "a  ", "a  b", "a   b", `"a"  b`, `a  "b"`, `"" `, ` ""`, `""  ""`, `a "b" `, "a b ", "a b  c",
		// a byte behind a quoted text
		`"a"b`, `"a""b"`, `"a""`, `"""`, `""a`, `"a"\`, `c "a"b`, `"a"b c`, "\"a\"\n", "\"a\"\t\"b\"", "\"a\"\x00", "\"a\"\xff",
		// a byte that no plain field has
		"\x00", "\n", "\t", "\r", "\x1f", "\x7f", "\x80", "\xff", "é", "a\n", "a\tb", "a\x7f", "a\x7fb", "a\x80", "a\x00", "\na", "a \n", "a \x7f", "a b\nc", "a\n\"", "a\u00a0b",
		// wrong ahead of what is unclosed
		` "a`, `a  "b`, `"a"b "c`, "a\n \"", `"\q" "`,
	} {
		is(t, "Fields of "+strconv.Quote(s), fields(s), "[] 3")
	}
}

func TestFieldsOfEveryByte(t *testing.T) {
	u := units()
	for i := range 256 {
		c := string([]byte{byte(i)})
		for _, s := range []string{c, c + c, "a" + c, c + "a", "a" + c + "b", "a " + c, c + " a", `"a"` + c, `"a"` + c + "b", `"a"` + c + `"b"`, `"` + c + `"`, `"` + c, `a "` + c + `"`} {
			is(t, "Fields of "+strconv.Quote(s), fields(s), toldFields(modelFields(u, s)))
		}
	}
}

func TestFieldsAsTheWordsSay(t *testing.T) {
	u := units()
	everyText(6, "\"\\ x0\n", func(s string) {
		is(t, "Fields of "+strconv.Quote(s), fields(s), toldFields(modelFields(u, s)))
	})
}

func TestJoin(t *testing.T) {
	for _, x := range []struct {
		l    []string
		want string
	}{
		{nil, ""}, {[]string{}, ""}, {[]string{""}, `""`}, {[]string{"", ""}, `"" ""`}, {[]string{"a"}, "a"},
		{[]string{"a", "b c"}, `a "b c"`}, {[]string{"b c", "a"}, `"b c" a`}, {[]string{"a", "b c", ""}, `a "b c" ""`}, {[]string{"", "a"}, `"" a`},
		{[]string{" "}, `" "`}, {[]string{"a "}, `"a "`}, {[]string{" a"}, `" a"`}, {[]string{"\n", "\t"}, `"\n" "\t"`},
		{[]string{`"`}, `"\""`}, {[]string{`"a`}, `"\"a"`}, {[]string{`"a"`}, `"\"a\""`}, {[]string{`a"`}, `a"`}, {[]string{`a"b`}, `a"b`}, {[]string{`a"b c`}, `"a\"b c"`},
		{[]string{`\`}, `\`}, {[]string{`\n`}, `\n`}, {[]string{`a\ b`}, `"a\\ b"`}, {[]string{"~!"}, "~!"},
		{[]string{"\x7f"}, `"\x7f"`}, {[]string{"a\x7f"}, `"a\x7f"`}, {[]string{"\x1f"}, `"\x1f"`}, {[]string{"é"}, `"\xc3\xa9"`}, {[]string{"a\x00b", "a"}, `"a\x00b" a`},
	} {
		is(t, fmt.Sprintf("Join of %q", x.l), escape.Join(x.l), x.want)
		is(t, "Fields of "+x.want, fields(x.want), toldFields(x.l, api.OK))
	}
}

func TestJoinOfEveryByte(t *testing.T) {
	u := units()
	for i := range 256 {
		c := string([]byte{byte(i)})
		quoted := `"` + u[i] + `"`
		if i > ' ' && i <= '~' && i != '"' {
			quoted = c
		}
		is(t, "Join of byte "+strconv.Itoa(i), escape.Join([]string{c, "a"}), quoted+" a")
		quoted = `"a` + u[i] + `b"`
		if i > ' ' && i <= '~' {
			quoted = "a" + c + "b"
		}
		is(t, "Join of byte "+strconv.Itoa(i)+" in a text", escape.Join([]string{"x", "a" + c + "b"}), "x "+quoted)
	}
}

func TestJoinLeavesWhatIsHandedIn(t *testing.T) {
	room := []string{"a", "b c", "", "spare", "room"}
	is(t, "Join", escape.Join(room[:3]), `a "b c" ""`)
	is(t, "what was handed in", fmt.Sprintf("%q", room), `["a" "b c" "" "spare" "room"]`)
}

func TestFieldsAnswersNewMemory(t *testing.T) {
	const s = `a "b c" d`
	l, _ := escape.Fields(s)
	again, _ := escape.Fields(s)
	l = l[:cap(l)]
	for i := range l {
		l[i] = "#"
	}
	is(t, "another answer", fmt.Sprintf("%q", again), `["a" "b c" "d"]`)
	is(t, "a later answer", fields(s), `["a" "b c" "d"] 0`)
}

// P204: laws.

func TestWhatWasWrittenIsReadAsItWas(t *testing.T) {
	for n := int64(-2000); n <= 2000; n++ {
		is(t, "a number", parsed(escape.Int(n)), toldInt(n, api.OK))
	}
	for shift := range 64 {
		for d := int64(-2); d <= 2; d++ {
			n := int64(1)<<shift + d
			is(t, "a number", parsed(escape.Int(n)), toldInt(n, api.OK))
			is(t, "a number", parsed(escape.Int(-n)), toldInt(-n, api.OK))
		}
	}
	text := func(s string) {
		q := escape.Quote(s)
		for _, behind := range []string{"", "a", `"`, " ", `\`} {
			is(t, "a text", unquoted(q+behind), toldText(s, len(q), api.OK))
		}
		is(t, "a field", fields(escape.Join([]string{s})), toldFields([]string{s}, api.OK))
		is(t, "fields", fields(escape.Join([]string{"x", s, s, ""})), toldFields([]string{"x", s, s, ""}, api.OK))
	}
	everyText(2, allBytes(), text)
	everyText(5, "\"\\ nx0\n", text)
	text(allBytes() + allBytes())
}

func TestWhatIsReadIsWrittenSoAgain(t *testing.T) {
	everyText(5, "-+019 ", func(s string) {
		if n, k := escape.ParseInt(s); k == api.OK {
			is(t, "a number", escape.Int(n), s)
		}
	})
	everyText(6, "\"\\x0n ", func(s string) {
		if text, n, k := escape.Unquote(`"` + s); k == api.OK {
			is(t, "a text", escape.Quote(text), (`"` + s)[:n])
		}
	})
	for _, s := range []string{"", "a", `a "b c" ""`, `"" ""`, `a"b "\"c" \`, `"\x00\xff" "\n" "\t\"" ~!`} {
		l, k := escape.Fields(s)
		is(t, "fields", escape.Join(l)+toldFields(nil, k), s+"[] 0")
	}
}

// TestFieldsAreReadAsTheirTexts: a quoted field that could be plain is the plain one's text.
func TestFieldsAreReadAsTheirTexts(t *testing.T) {
	everyText(6, "\"\\ x0", func(s string) {
		if l, k := escape.Fields(s); k == api.OK {
			again := escape.Join(l)
			is(t, "fields", fields(again), toldFields(l, api.OK))
			if len(again) > len(s) {
				t.Errorf("Join of Fields of %q: %q is longer", s, again)
			}
		}
	})
}
