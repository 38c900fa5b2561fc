package format_test

import (
	"fmt"
	"math"
	"strings"
	"testing"

	"noonmark/api"
	"noonmark/format"
)

func is(t *testing.T, what, got, want string) {
	t.Helper()
	if got != want {
		t.Errorf("%.600s: %.600s, not %.600s", what, got, want)
	}
}

// same is for long loops: it stops at the first fault.
func same(t *testing.T, what, got, want string) {
	t.Helper()
	if got != want {
		t.Fatalf("%.1600s: %.600s, not %.600s", what, got, want)
	}
}

func toldAbbr(s string, k api.Kind) string { return fmt.Sprintf("%q %d", s, int(k)) }

// badArg, badFormat: as toldAbbr tells them, without a text.
const (
	badArg    = `"" 1`
	badFormat = `"" 15`
)

// wild: numbers far out; some would be right, if their high bits were dropped.
var wild = []int{
	math.MinInt, math.MinInt + 1, math.MinInt + 180000, math.MinInt32, -1 << 32, -1<<32 + 3600, -1 << 20,
	1 << 20, 1 << 32, 1<<32 + 3600, math.MaxInt32, math.MaxInt - 180000, math.MaxInt - 1, math.MaxInt,
}

// P1601: Plain.

func TestPlain(t *testing.T) {
	for _, s := range []string{"UTC", "CEST", "CHADT", "+05", "-05", "+0530", "-0330", "ABCDEF", "abcdef", "aB3+-z", "---", "+++", "000", "999999", "Az0", "+-+-+-"} {
		is(t, "Plain of "+s, fmt.Sprint(format.Plain(s)), "true")
	}
	for _, s := range []string{"", "A", "AB", "+0", "00", "ABCDEFG", "+053015", "0000000", strings.Repeat("A", 1000), "A B", " AB", "AB ", "AB\n", "\nABC", "A/B", "%s%s", "A%B", "A_B", "A.B", "AB\x00", "\x00AB", "É", "éé", "ABé", "éAB", "€", "A\xffB", "\xff\xff\xff", "Ａ", "٣٣", "A\u200bB"} {
		is(t, "Plain of "+s, fmt.Sprint(format.Plain(s)), "false")
	}
}

func TestPlainOfEachLength(t *testing.T) {
	for n := range 300 {
		for _, c := range []string{"A", "z", "5", "+", "-"} {
			is(t, fmt.Sprint("Plain of ", n, " of ", c), fmt.Sprint(format.Plain(strings.Repeat(c, n))), fmt.Sprint(n >= 3 && n <= 6))
		}
	}
}

func TestPlainOfTheBytesAboutEachRange(t *testing.T) {
	right, wrong := "09AZaz+-", "/:@[`{*,.\x00 \x7f\x80\xff"
	for n := 3; n <= 6; n++ {
		for i := range n {
			put := func(c byte) string { return strings.Repeat("m", i) + string([]byte{c}) + strings.Repeat("m", n-i-1) }
			for j := range len(right) {
				s := put(right[j])
				is(t, fmt.Sprintf("Plain of %q", s), fmt.Sprint(format.Plain(s)), "true")
			}
			for j := range len(wrong) {
				s := put(wrong[j])
				is(t, fmt.Sprintf("Plain of %q", s), fmt.Sprint(format.Plain(s)), "false")
			}
		}
	}
}

// P1601: Abbr.

// asked: of Abbr.
type asked struct {
	format, letter string
	off            int
	dst            bool
	want           string
}

func check(t *testing.T, l []asked) {
	t.Helper()
	for _, x := range l {
		is(t, fmt.Sprintf("Abbr of %q, %q, %d, %v", x.format, x.letter, x.off, x.dst), toldAbbr(format.Abbr(x.format, x.letter, x.off, x.dst)), x.want)
	}
}

// both: with dst and without it the same is wanted.
func both(l []asked) []asked {
	var more []asked
	for _, x := range l {
		x.dst = true
		more = append(more, x)
		x.dst = false
		more = append(more, x)
	}
	return more
}

func TestTheExamplesOfTheChapter(t *testing.T) {
	check(t, []asked{
		{"CE%sT", "S", 7200, true, `"CEST" 0`}, {"CE%sT", "", 3600, false, `"CET" 0`},
		{"GMT/BST", "", 0, false, `"GMT" 0`}, {"GMT/BST", "", 3600, true, `"BST" 0`},
		{"%z", "", 19800, false, `"+0530" 0`},
	})
}

func TestFormatsWithoutAMark(t *testing.T) {
	check(t, both([]asked{
		{"UTC", "", 0, false, `"UTC" 0`}, {"UTC", "S", 3600, false, `"UTC" 0`}, {"ABCDEF", "", 0, false, `"ABCDEF" 0`}, {"+0530", "%z", -3600, false, `"+0530" 0`}, {"sz-", "S", 3600, false, `"sz-" 0`},
		{"", "", 0, false, badFormat}, {"", "ABC", 3600, false, badFormat}, {"AB", "C", 3600, false, badFormat}, {"ABCDEFG", "", 0, false, badFormat}, {"A B", "", 0, false, badFormat}, {"AB\xff", "", 0, false, badFormat}, {strings.Repeat("A", 20), "", 0, false, badFormat},
		{"%", "ABC", 3600, false, badFormat}, {"%%", "ABC", 3600, false, badFormat}, {"%%%", "ABC", 3600, false, badFormat}, {"ABC%", "S", 3600, false, badFormat}, {"%ABC", "S", 3600, false, badFormat}, {"A%B", "S", 3600, false, badFormat}, {"AB%S", "S", 3600, false, badFormat}, {"AB%Z", "S", 3600, false, badFormat}, {"AB%d", "S", 3600, false, badFormat}, {"AB% s", "S", 3600, false, badFormat}, {"AB%\x00", "S", 3600, false, badFormat},
	}))
}

func TestFormatsWithALetter(t *testing.T) {
	check(t, both([]asked{
		{"CE%sT", "S", 7200, false, `"CEST" 0`}, {"E%sT", "D", -14400, false, `"EDT" 0`}, {"E%sT", "S", -18000, false, `"EST" 0`}, {"%s", "GMT", 0, false, `"GMT" 0`}, {"%s", "ABCDEF", 0, false, `"ABCDEF" 0`}, {"%sST", "I", 0, false, `"IST" 0`}, {"IS%s", "T", 0, false, `"IST" 0`}, {"A%sB", "+-1", 0, false, `"A+-1B" 0`},
		// a letter that is empty
		{"CE%sT", "", 3600, false, `"CET" 0`}, {"ABC%s", "", 0, false, `"ABC" 0`}, {"%sABCDEF", "", 0, false, `"ABCDEF" 0`}, {"%s", "", 0, false, badFormat}, {"A%sB", "", 0, false, badFormat},
		// too long, too short
		{"ABC%s", "DEF", 0, false, `"ABCDEF" 0`}, {"ABC%s", "DEFG", 0, false, badFormat}, {"ABCD%s", "DEF", 0, false, badFormat}, {"ABCDEFG%s", "", 0, false, badFormat}, {"%s", "ABCDEFG", 0, false, badFormat}, {"%s", "AB", 0, false, badFormat}, {"A%s", "B", 0, false, badFormat}, {"A%s", "BC", 0, false, `"ABC" 0`}, {"ABC%s", strings.Repeat("D", 1000), 0, false, badFormat},
		// with something in it that is no abbreviation's
		{"AB%s", "/", 0, false, badFormat}, {"%s", "ABC/DEF", 0, false, badFormat}, {"ABC%s", "/", 0, false, badFormat}, {"%s", "/ABC", 0, false, badFormat}, {"%s", "%s", 3600, false, badFormat}, {"%s", "%z", 3600, false, badFormat}, {"AB%s", "%z", 3600, false, badFormat}, {"AB%s", "%s", 3600, false, badFormat}, {"AB%s", " ", 0, false, badFormat}, {"AB%s", "é", 0, false, badFormat}, {"AB%s", "\xff", 0, false, badFormat}, {"AB%s", "%", 0, false, badFormat}, {"A%sB", "_", 0, false, badFormat},
		// what stands beside it is no abbreviation's
		{" A%s", "BC", 0, false, badFormat}, {"A%s ", "BC", 0, false, badFormat}, {"A%%sB", "CD", 0, false, badFormat}, {"%A%s", "BC", 0, false, badFormat}, {"A%s%", "BC", 0, false, badFormat}, {"%%s", "ABC", 0, false, badFormat},
		// just the first one counts
		{"%s%s", "ABC", 0, false, badFormat}, {"%s%s", "", 0, false, badFormat}, {"A%sB%s", "C", 0, false, badFormat}, {"ABC%s%s", "", 0, false, badFormat}, {"ABC%s%s", "%s", 0, false, badFormat},
	}))
}

func TestFormatsWithAnOffset(t *testing.T) {
	check(t, both([]asked{
		{"%z", "", 0, false, `"+00" 0`}, {"%z", "", 3600, false, `"+01" 0`}, {"%z", "", -3600, false, `"-01" 0`}, {"%z", "S", 32400, false, `"+09" 0`}, {"%z", "", 36000, false, `"+10" 0`}, {"%z", "", -36000, false, `"-10" 0`}, {"%z", "", 82800, false, `"+23" 0`}, {"%z", "", 86400, false, `"+24" 0`}, {"%z", "", 172800, false, `"+48" 0`}, {"%z", "", 180000, false, `"+50" 0`}, {"%z", "", -180000, false, `"-50" 0`},
		{"%z", "", 19800, false, `"+0530" 0`}, {"%z", "", -19800, false, `"-0530" 0`}, {"%z", "", 60, false, `"+0001" 0`}, {"%z", "", -60, false, `"-0001" 0`}, {"%z", "", 600, false, `"+0010" 0`}, {"%z", "", 3540, false, `"+0059" 0`}, {"%z", "", -3540, false, `"-0059" 0`}, {"%z", "", 45900, false, `"+1245" 0`}, {"%z", "", 179940, false, `"+4959" 0`}, {"%z", "", -179940, false, `"-4959" 0`},
		// with seconds it is too long
		{"%z", "", 1, false, badFormat}, {"%z", "", -1, false, badFormat}, {"%z", "", 59, false, badFormat}, {"%z", "", 61, false, badFormat}, {"%z", "", 3601, false, badFormat}, {"%z", "", -3601, false, badFormat}, {"%z", "", 19801, false, badFormat}, {"%z", "", -12345, false, badFormat}, {"%z", "", 179999, false, badFormat}, {"%z", "", -179999, false, badFormat},
		// with something beside it
		{"A%z", "", 3600, false, `"A+01" 0`}, {"%zA", "", 3600, false, `"+01A" 0`}, {"A%zB", "", -3600, false, `"A-01B" 0`}, {"A%z", "", 19800, false, `"A+0530" 0`}, {"%z+", "", 19800, false, `"+0530+" 0`}, {"ABC%z", "", 3600, false, `"ABC+01" 0`}, {"ABCD%z", "", 3600, false, badFormat}, {"AB%z", "", 19800, false, badFormat}, {"%z ", "", 3600, false, badFormat}, {" %z", "", 3600, false, badFormat}, {"%%z", "", 3600, false, badFormat}, {"%z%", "", 3600, false, badFormat}, {"%A%z", "", 3600, false, badFormat},
		// just the first one counts
		{"%z%z", "", 0, false, badFormat}, {"%z%z", "", 3600, false, badFormat}, {"%zA%z", "", 3600, false, badFormat},
	}))
}

func TestFormatsWithTwoSides(t *testing.T) {
	check(t, []asked{
		{"GMT/BST", "S", 0, false, `"GMT" 0`}, {"GMT/BST", "S", 0, true, `"BST" 0`}, {"+0530/+0630", "", 0, false, `"+0530" 0`}, {"+0530/+0630", "", 0, true, `"+0630" 0`}, {"ABCDEF/ABC", "", 7, false, `"ABCDEF" 0`}, {"ABC/ABCDEF", "", 7, true, `"ABCDEF" 0`},
		{"/", "", 0, false, badFormat}, {"/", "", 0, true, badFormat}, {"/ABC", "", 0, false, badFormat}, {"/ABC", "", 0, true, `"ABC" 0`}, {"ABC/", "", 0, false, `"ABC" 0`}, {"ABC/", "", 0, true, badFormat},
		// just the first one counts
		{"//", "", 0, false, badFormat}, {"//", "", 0, true, badFormat}, {"ABC/DEF/GHI", "", 0, false, `"ABC" 0`}, {"ABC/DEF/GHI", "", 0, true, badFormat}, {"ABC//", "", 0, false, `"ABC" 0`}, {"ABC//", "", 0, true, badFormat}, {"ABC//DEF", "", 0, true, badFormat}, {"//ABC", "", 0, true, badFormat}, {"/ABC/DEF", "", 0, true, badFormat},
		// the other side is not asked
		{"ABC/D", "", 0, false, `"ABC" 0`}, {"ABC/D", "", 0, true, badFormat}, {"A/BCD", "", 0, false, badFormat}, {"A/BCD", "", 0, true, `"BCD" 0`}, {"ABC/DEFGHIJ", "", 0, false, `"ABC" 0`}, {"ABC/DEFGHIJ", "", 0, true, badFormat}, {"ABCDEFG/HIJ", "", 0, false, badFormat}, {"ABCDEFG/HIJ", "", 0, true, `"HIJ" 0`}, {"ABC/%%%", "", 0, false, `"ABC" 0`}, {"ABC/%%%", "", 0, true, badFormat}, {"%/ABC", "", 0, true, `"ABC" 0`}, {"ABC/\xff\xff\xff", "", 0, false, `"ABC" 0`}, {"ABC/" + strings.Repeat("D", 100), "", 0, false, `"ABC" 0`}, {strings.Repeat("D", 100) + "/ABC", "", 0, true, `"ABC" 0`},
		// a mark that the / parts is none
		{"ABC%/s", "D", 0, false, badFormat}, {"%/zABC", "", 0, true, `"zABC" 0`}, {"%/sABC", "D", 0, true, `"sABC" 0`},
	})
}

// Of %s, %z and / the first one of these that a format has tells it, wherever it stands.
func TestFormatsWithSeveralMarks(t *testing.T) {
	check(t, both([]asked{
		{"ABC/%s", "DEF", 0, false, badFormat}, {"%s/ABC", "DEF", 0, false, badFormat}, {"ABC/A%sB", "D", 0, false, badFormat}, {"ABC/DEF%s", "", 0, false, badFormat}, {"%sABC/DEF", "", 0, false, badFormat}, {"A/%s", "B", 0, false, badFormat},
		{"ABC/%z", "", 3600, false, badFormat}, {"%z/ABC", "", 3600, false, badFormat}, {"/%z", "", 3600, false, badFormat}, {"%z/", "", 3600, false, badFormat}, {"%z/%z", "", 3600, false, badFormat},
		{"%s%z", "ABC", 3600, false, badFormat}, {"%z%s", "ABC", 3600, false, badFormat}, {"%s%z", "", 0, false, badFormat}, {"%z%s", "", 3600, false, badFormat}, {"%s/%s", "ABC", 0, false, badFormat},
		{"ABC/%s%z", "DEF", 3600, false, badFormat}, {"ABC/%z%s", "DEF", 3600, false, badFormat}, {"%s/%z", "ABC", 3600, false, badFormat}, {"%z/%s", "ABC", 3600, false, badFormat}, {"%s%z/ABC", "DEF", 3600, false, badFormat}, {"%z%s/ABC", "DEF", 3600, false, badFormat},
	}))
}

func TestTheBoundsOfAnOffset(t *testing.T) {
	for _, x := range []struct {
		off  int
		want string
	}{{-180000, `"UTC" 0`}, {180000, `"UTC" 0`}, {-179999, `"UTC" 0`}, {179999, `"UTC" 0`}, {-180001, badArg}, {180001, badArg}} {
		check(t, both([]asked{{"UTC", "", x.off, false, x.want}, {"U%sC", "T", x.off, false, x.want}}))
		check(t, []asked{{"UTC/DST", "", x.off, false, x.want}, {"DST/UTC", "", x.off, true, x.want}})
	}
	for _, off := range append([]int{-180001, 180001, -180060, 180060, -183600, 183600}, wild...) {
		check(t, both([]asked{
			{"UTC", "", off, false, badArg}, {"%z", "", off, false, badArg}, {"U%sC", "T", off, false, badArg}, {"ABC/DEF", "", off, false, badArg},
			// ahead of BadFormat
			{"", "", off, false, badArg}, {"A", "", off, false, badArg}, {"AB%", "", off, false, badArg}, {"U%sC", "/", off, false, badArg}, {"/", "", off, false, badArg}, {"ABC%z%z", "", off, false, badArg},
		}))
	}
}
