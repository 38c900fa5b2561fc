package footer_test

import (
	"fmt"
	"math"
	"strings"
	"testing"

	"noonmark/api"
	"noonmark/footer"
)

func is(t *testing.T, what, got, want string) {
	t.Helper()
	if got != want {
		t.Errorf("%.600s: %.600s, not %.600s", what, got, want)
	}
}

// same is for long loops: it stops at the first fault.
func same(t *testing.T, what, got, want string) {
	t.Helper()
	if got != want {
		t.Fatalf("%.1600s: %.600s, not %.600s", what, got, want)
	}
}

func toldText(s string, k api.Kind) string { return fmt.Sprintf("%q %d", s, int(k)) }

func toldSpec(s footer.Spec, k api.Kind) string { return fmt.Sprintf("%+v %d", s, int(k)) }

// shown: the text, or the kind.
func shown(s footer.Spec, k api.Kind) string {
	if k != api.OK {
		return refused(s, k)
	}
	text, k := footer.Show(s)
	if k != api.OK {
		return fmt.Sprintf("%+v, which is not right", s)
	}
	return text
}

// refused: a kind, and what else isn't zero.
func refused(s footer.Spec, k api.Kind) string {
	if s != (footer.Spec{}) {
		return fmt.Sprintf("kind %d, but %+v", int(k), s)
	}
	return kind(k)
}

func kind(k api.Kind) string { return fmt.Sprintf("kind %d", int(k)) }

// edges: j of a day of a year, m of a week's day of a month.
func j(day, sec int) footer.Edge { return footer.Edge{Fixed: true, Day: day, Sec: sec} }

func m(month, week, day, sec int) footer.Edge {
	return footer.Edge{Month: month, Week: week, Day: day, Sec: sec}
}

// cet: the example of the chapter.
func cet() footer.Spec {
	return footer.Spec{Std: "CET", Off: 3600, Dst: "CEST", DOff: 7200, Start: m(3, 5, 0, 7200), End: m(10, 5, 0, 10800)}
}

// with: cet, changed.
func with(do func(s *footer.Spec)) footer.Spec {
	s := cet()
	do(&s)
	return s
}

// wild: numbers far out; some would be right, if their high bits were dropped.
var wild = []int{
	math.MinInt, math.MinInt + 1, math.MinInt + 3600, math.MinInt32, -1 << 32, -1<<32 + 3600, -1 << 20,
	1 << 20, 1 << 32, 1<<32 + 1, 1<<32 + 3600, 1<<40 + 5, math.MaxInt32, math.MaxInt - 86400, math.MaxInt - 1, math.MaxInt,
}

// P1701: Right.

// judge: Right says so; and what Show and At say hangs on it.
func judge(t *testing.T, s footer.Spec, want bool) {
	t.Helper()
	what := fmt.Sprintf(" of %+v", s)
	is(t, "Right"+what, fmt.Sprint(footer.Right(s)), fmt.Sprint(want))
	text, k := footer.Show(s)
	if want {
		is(t, "Show"+what, fmt.Sprint(k, text != ""), fmt.Sprint(api.OK, true))
		is(t, "Parse of "+text, toldSpec(footer.Parse(text)), toldSpec(s, api.OK))
		_, k = footer.At(s, 0)
		is(t, "At's kind"+what, kind(k), kind(api.OK))
		return
	}
	is(t, "Show"+what, toldText(text, k), toldText("", api.BadArg))
	for _, when := range []int64{0, math.MinInt64, math.MaxInt64} { // ahead of Range
		is(t, "At"+what, toldLocal(footer.At(s, when)), noLocal(api.BadArg))
	}
}

// judgeEdge: as Start, as End and as both.
func judgeEdge(t *testing.T, e footer.Edge, want bool) {
	t.Helper()
	judge(t, with(func(s *footer.Spec) { s.Start = e }), want)
	judge(t, with(func(s *footer.Spec) { s.End = e }), want)
	judge(t, with(func(s *footer.Spec) { s.Start, s.End = e, e }), want)
}

func TestRightOfSpecs(t *testing.T) {
	judge(t, cet(), true)
	judge(t, footer.Spec{Std: "UTC"}, true)
	judge(t, footer.Spec{Std: "CET", Off: 3600}, true)
	judge(t, footer.Spec{}, false)
	judge(t, footer.Spec{Dst: "CEST", DOff: 7200, Start: m(3, 5, 0, 7200), End: m(10, 5, 0, 10800)}, false)
	judge(t, footer.Spec{Std: "CET", Dst: "CEST"}, false)
	judge(t, footer.Spec{Std: "CET", Off: 3600, Dst: "CEST", DOff: 7200}, false)
	judge(t, footer.Spec{Std: "CET", Off: 3600, Dst: "CEST", DOff: 7200, Start: m(3, 5, 0, 7200)}, false)
	judge(t, footer.Spec{Std: "CET", Off: 3600, Dst: "CEST", DOff: 7200, End: m(3, 5, 0, 7200)}, false)
	// both sides may be alike, and the saving may be none, or below 0
	judge(t, with(func(s *footer.Spec) { s.Dst = s.Std }), true)
	judge(t, with(func(s *footer.Spec) { s.DOff = s.Off }), true)
	judge(t, with(func(s *footer.Spec) { s.DOff = 0 }), true)
	judge(t, with(func(s *footer.Spec) { s.Off, s.DOff = 86400, -86400 }), true)
	judge(t, with(func(s *footer.Spec) { s.End = s.Start }), true)
}

func TestRightOfFixedEdges(t *testing.T) {
	for day := -2; day <= 400; day++ {
		judgeEdge(t, j(day, 7200), day >= 1 && day <= 365)
	}
	for _, x := range []footer.Edge{
		{Fixed: true, Day: 1, Month: 1}, {Fixed: true, Day: 365, Month: 12}, {Fixed: true, Day: 1, Week: 1}, {Fixed: true, Day: 6, Week: 5}, {Fixed: true, Day: 1, Month: 1, Week: 1}, {Fixed: true, Day: 1, Month: -1}, {Fixed: true, Day: 1, Week: -1}, {Fixed: true, Day: 1, Month: 13}, {Fixed: true, Month: 3, Week: 2}, {Fixed: true, Day: 0}, {Fixed: true},
	} {
		judgeEdge(t, x, false)
	}
}

func TestRightOfWeeksEdges(t *testing.T) {
	for month := -1; month <= 14; month++ {
		for week := -1; week <= 7; week++ {
			for day := -2; day <= 8; day++ {
				judgeEdge(t, m(month, week, day, 7200), month >= 1 && month <= 12 && week >= 1 && week <= 5 && day >= 0 && day <= 6)
			}
		}
	}
	judgeEdge(t, m(60, 0, 1, 7200), false)
	judgeEdge(t, m(0, 0, 60, 7200), false)
	judgeEdge(t, footer.Edge{}, false)
}

func TestRightOfSeconds(t *testing.T) {
	for _, sec := range []int{0, 1, -1, 3600, 7200, 86399, 86400, 86401, -86400, 90000, 604798, 604799, -604798, -604799} {
		judgeEdge(t, j(60, sec), true)
		judgeEdge(t, m(3, 5, 0, sec), true)
	}
	for _, sec := range append([]int{604800, 604801, -604800, -604801, 608400, -608400}, wild...) {
		judgeEdge(t, j(60, sec), false)
		judgeEdge(t, m(3, 5, 0, sec), false)
	}
}

func TestRightOfOffsets(t *testing.T) {
	for _, off := range []int{0, 1, -1, 3600, -3600, 86399, 86400, -86399, -86400} {
		judge(t, footer.Spec{Std: "UTC", Off: off}, true)
		judge(t, with(func(s *footer.Spec) { s.Off = off }), true)
		judge(t, with(func(s *footer.Spec) { s.DOff = off }), true)
	}
	for _, off := range append([]int{86401, -86401, 86460, 90000, -90000}, wild...) {
		judge(t, footer.Spec{Std: "UTC", Off: off}, false)
		judge(t, with(func(s *footer.Spec) { s.Off = off }), false)
		judge(t, with(func(s *footer.Spec) { s.DOff = off }), false)
		judge(t, with(func(s *footer.Spec) { s.Off, s.DOff = off-3600, off }), false)
	}
}

func TestRightOfNames(t *testing.T) {
	judgeName := func(name string, want bool) {
		t.Helper()
		judge(t, footer.Spec{Std: name}, want)
		judge(t, with(func(s *footer.Spec) { s.Std = name }), want)
		if name != "" {
			judge(t, with(func(s *footer.Spec) { s.Dst = name }), want)
		}
	}
	for _, name := range []string{"UTC", "abc", "ABCDEF", "CHADT", "+01", "-01", "000", "---", "+++", "+0330", "-0330", "AB1", "1AB", "A+B", "A-B", "123456", "zZ09+-"} {
		judgeName(name, true)
	}
	for _, name := range []string{"", "A", "AB", "ABCDEFG", "+033000", "<AB>", "<ABC>", "A B", "ABC ", " ABC", "AB\n", "A,B", "A/B", "A:B", "A.B", "AB>", "ABC\x00", "É", "éé", "ABé", "Ａ", "A\xffB", strings.Repeat("A", 300)} {
		judgeName(name, false)
	}
	for n := 2; n <= 7; n++ {
		for i := range n {
			for c := range 256 {
				b := []byte("aZ9+-bY"[:n])
				b[i] = byte(c)
				ok := c >= '0' && c <= '9' || c >= 'a' && c <= 'z' || c >= 'A' && c <= 'Z' || c == '+' || c == '-'
				judgeName(string(b), ok && n >= 3 && n <= 6)
			}
		}
	}
}

func TestRightWithoutADst(t *testing.T) {
	for _, do := range []func(s *footer.Spec){
		func(s *footer.Spec) { s.DOff = 3600 },
		func(s *footer.Spec) { s.DOff = 7200 },
		func(s *footer.Spec) { s.DOff = -1 },
		func(s *footer.Spec) { s.Start.Fixed = true },
		func(s *footer.Spec) { s.Start.Day = 1 },
		func(s *footer.Spec) { s.Start.Month = 1 },
		func(s *footer.Spec) { s.Start.Week = 1 },
		func(s *footer.Spec) { s.Start.Sec = 7200 },
		func(s *footer.Spec) { s.End.Fixed = true },
		func(s *footer.Spec) { s.End.Day = 1 },
		func(s *footer.Spec) { s.End.Month = 1 },
		func(s *footer.Spec) { s.End.Week = 1 },
		func(s *footer.Spec) { s.End.Sec = -1 },
		func(s *footer.Spec) { s.Start = m(3, 5, 0, 7200) },
		func(s *footer.Spec) { s.Start, s.End = m(3, 5, 0, 7200), m(10, 5, 0, 7200) },
		func(s *footer.Spec) { s.DOff, s.Start, s.End = 7200, j(1, 0), j(2, 0) },
	} {
		s := footer.Spec{Std: "CET", Off: 3600}
		judge(t, s, true)
		do(&s)
		judge(t, s, false)
	}
	judge(t, with(func(s *footer.Spec) { s.Dst = "" }), false)
}

func TestRightOfWildNumbers(t *testing.T) {
	for _, n := range wild {
		for _, do := range []func(s *footer.Spec){
			func(s *footer.Spec) { s.Off = n },
			func(s *footer.Spec) { s.DOff = n },
			func(s *footer.Spec) { s.Start.Day = n },
			func(s *footer.Spec) { s.Start.Month = n },
			func(s *footer.Spec) { s.Start.Week = n },
			func(s *footer.Spec) { s.Start.Sec = n },
			func(s *footer.Spec) { s.End = j(n, 7200) },
			func(s *footer.Spec) { s.End = footer.Edge{Fixed: true, Day: 1, Month: n} },
			func(s *footer.Spec) { s.End = footer.Edge{Fixed: true, Day: 1, Week: n} },
			func(s *footer.Spec) { s.End.Sec = n },
		} {
			judge(t, with(do), false)
		}
	}
}
