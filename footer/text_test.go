package footer_test

import (
	"fmt"
	"math/rand"
	"regexp"
	"strconv"
	"strings"
	"testing"

	"noonmark/api"
	"noonmark/footer"
)

// P1701: Show and Parse.

// pairs: specs and their texts.
var pairs = []struct {
	s    footer.Spec
	text string
}{
	{footer.Spec{Std: "UTC"}, "UTC0"},
	{footer.Spec{Std: "CET", Off: 3600}, "CET-1"},
	{cet(), "CET-1CEST,M3.5.0,M10.5.0/3"},
	{footer.Spec{Std: "EST", Off: -18000, Dst: "EDT", DOff: -14400, Start: m(3, 2, 0, 7200), End: m(11, 1, 0, 7200)}, "EST5EDT,M3.2.0,M11.1.0"},
	{footer.Spec{Std: "IST", Off: 3600, Dst: "GMT", Start: m(10, 5, 0, 7200), End: m(3, 5, 0, 3600)}, "IST-1GMT0,M10.5.0,M3.5.0/1"},
	{footer.Spec{Std: "XST", Off: -10800, Dst: "XDT", DOff: -7200, Start: j(1, 0), End: j(365, 90000)}, "XST3XDT,J1/0,J365/25"},
	// names
	{footer.Spec{Std: "abcXYZ"}, "abcXYZ0"},
	{footer.Spec{Std: "+0330", Off: 12600}, "<+0330>-3:30"},
	{footer.Spec{Std: "-0330", Off: -12600}, "<-0330>3:30"},
	{footer.Spec{Std: "123456"}, "<123456>0"},
	{footer.Spec{Std: "AB1"}, "<AB1>0"},
	{footer.Spec{Std: "1AB"}, "<1AB>0"},
	{footer.Spec{Std: "A+B"}, "<A+B>0"},
	{footer.Spec{Std: "AB-", Off: 3600}, "<AB->-1"},
	{footer.Spec{Std: "---", Off: 3600}, "<--->-1"},
	{footer.Spec{Std: "+1030", Off: 37800, Dst: "+11", DOff: 39600, Start: m(10, 1, 0, 7200), End: m(4, 1, 0, 7200)}, "<+1030>-10:30<+11>-11,M10.1.0,M4.1.0"},
	{footer.Spec{Std: "-04", Off: -14400, Dst: "-03", DOff: -10800, Start: m(9, 1, 6, 86400), End: m(4, 1, 6, 86400)}, "<-04>4<-03>,M9.1.6/24,M4.1.6/24"},
	{with(func(s *footer.Spec) { s.Std = "AB1" }), "<AB1>-1CEST,M3.5.0,M10.5.0/3"},
	{with(func(s *footer.Spec) { s.Dst = "AB1" }), "CET-1<AB1>,M3.5.0,M10.5.0/3"},
	{with(func(s *footer.Spec) { s.Dst = "A+B" }), "CET-1<A+B>,M3.5.0,M10.5.0/3"},
	{with(func(s *footer.Spec) { s.Dst = "---" }), "CET-1<--->,M3.5.0,M10.5.0/3"},
	{with(func(s *footer.Spec) { s.Std, s.Dst, s.DOff = "+01", "123456", 0 }), "<+01>-1<123456>0,M3.5.0,M10.5.0/3"},
	// offsets
	{footer.Spec{Std: "ABC", Off: 32400}, "ABC-9"},
	{footer.Spec{Std: "ABC", Off: -32400}, "ABC9"},
	{footer.Spec{Std: "ABC", Off: 36000}, "ABC-10"},
	{footer.Spec{Std: "ABC", Off: -36000}, "ABC10"},
	{footer.Spec{Std: "ABC", Off: 86400}, "ABC-24"},
	{footer.Spec{Std: "ABC", Off: -86400}, "ABC24"},
	{footer.Spec{Std: "ABC", Off: 86399}, "ABC-23:59:59"},
	{footer.Spec{Std: "ABC", Off: -86399}, "ABC23:59:59"},
	{footer.Spec{Std: "ABC", Off: 20700}, "ABC-5:45"},
	{footer.Spec{Std: "ABC", Off: -20700}, "ABC5:45"},
	{footer.Spec{Std: "ABC", Off: 60}, "ABC-0:01"},
	{footer.Spec{Std: "ABC", Off: -60}, "ABC0:01"},
	{footer.Spec{Std: "ABC", Off: 1}, "ABC-0:00:01"},
	{footer.Spec{Std: "ABC", Off: -1}, "ABC0:00:01"},
	{footer.Spec{Std: "ABC", Off: 3605}, "ABC-1:00:05"},
	{footer.Spec{Std: "ABC", Off: -3605}, "ABC1:00:05"},
	{footer.Spec{Std: "ABC", Off: 36610}, "ABC-10:10:10"},
	{footer.Spec{Std: "ABC", Off: -36610}, "ABC10:10:10"},
	{with(func(s *footer.Spec) { s.DOff = 7199 }), "CET-1CEST-1:59:59,M3.5.0,M10.5.0/3"},
	{with(func(s *footer.Spec) { s.DOff = 7201 }), "CET-1CEST-2:00:01,M3.5.0,M10.5.0/3"},
	{with(func(s *footer.Spec) { s.DOff = 3600 }), "CET-1CEST-1,M3.5.0,M10.5.0/3"},
	{with(func(s *footer.Spec) { s.DOff = 0 }), "CET-1CEST0,M3.5.0,M10.5.0/3"},
	{with(func(s *footer.Spec) { s.DOff = -1 }), "CET-1CEST0:00:01,M3.5.0,M10.5.0/3"},
	{with(func(s *footer.Spec) { s.Off, s.DOff = 0, 3600 }), "CET0CEST,M3.5.0,M10.5.0/3"},
	{with(func(s *footer.Spec) { s.Off, s.DOff = -3600, 0 }), "CET1CEST,M3.5.0,M10.5.0/3"},
	{with(func(s *footer.Spec) { s.Off, s.DOff = -3600, 3600 }), "CET1CEST-1,M3.5.0,M10.5.0/3"},
	{with(func(s *footer.Spec) { s.Off, s.DOff = 82800, 86400 }), "CET-23CEST,M3.5.0,M10.5.0/3"},
	{with(func(s *footer.Spec) { s.Off, s.DOff = 86400, 82800 }), "CET-24CEST-23,M3.5.0,M10.5.0/3"},
	{with(func(s *footer.Spec) { s.Off, s.DOff = -86400, -82800 }), "CET24CEST,M3.5.0,M10.5.0/3"},
	// edges
	{with(func(s *footer.Spec) { s.Start.Sec = 0 }), "CET-1CEST,M3.5.0/0,M10.5.0/3"},
	{with(func(s *footer.Spec) { s.Start.Sec = 7201 }), "CET-1CEST,M3.5.0/2:00:01,M10.5.0/3"},
	{with(func(s *footer.Spec) { s.Start.Sec = 7199 }), "CET-1CEST,M3.5.0/1:59:59,M10.5.0/3"},
	{with(func(s *footer.Spec) { s.Start.Sec = 9900 }), "CET-1CEST,M3.5.0/2:45,M10.5.0/3"},
	{with(func(s *footer.Spec) { s.Start.Sec = -1 }), "CET-1CEST,M3.5.0/-0:00:01,M10.5.0/3"},
	{with(func(s *footer.Spec) { s.Start.Sec = -7200 }), "CET-1CEST,M3.5.0/-2,M10.5.0/3"},
	{with(func(s *footer.Spec) { s.Start.Sec = -5400 }), "CET-1CEST,M3.5.0/-1:30,M10.5.0/3"},
	{with(func(s *footer.Spec) { s.Start.Sec = 93600 }), "CET-1CEST,M3.5.0/26,M10.5.0/3"},
	{with(func(s *footer.Spec) { s.Start.Sec = 360000 }), "CET-1CEST,M3.5.0/100,M10.5.0/3"},
	{with(func(s *footer.Spec) { s.Start.Sec = 604799 }), "CET-1CEST,M3.5.0/167:59:59,M10.5.0/3"},
	{with(func(s *footer.Spec) { s.Start.Sec = -604799 }), "CET-1CEST,M3.5.0/-167:59:59,M10.5.0/3"},
	{with(func(s *footer.Spec) { s.End.Sec = 7200 }), "CET-1CEST,M3.5.0,M10.5.0"},
	{with(func(s *footer.Spec) { s.End.Sec = 0 }), "CET-1CEST,M3.5.0,M10.5.0/0"},
	{with(func(s *footer.Spec) { s.End.Sec = -604799 }), "CET-1CEST,M3.5.0,M10.5.0/-167:59:59"},
	{with(func(s *footer.Spec) { s.Start = m(1, 1, 1, 7200) }), "CET-1CEST,M1.1.1,M10.5.0/3"},
	{with(func(s *footer.Spec) { s.Start = m(12, 4, 6, 7200) }), "CET-1CEST,M12.4.6,M10.5.0/3"},
	{with(func(s *footer.Spec) { s.Start = j(9, 7200) }), "CET-1CEST,J9,M10.5.0/3"},
	{with(func(s *footer.Spec) { s.Start = j(59, 7200) }), "CET-1CEST,J59,M10.5.0/3"},
	{with(func(s *footer.Spec) { s.Start = j(100, -1) }), "CET-1CEST,J100/-0:00:01,M10.5.0/3"},
	{with(func(s *footer.Spec) { s.End = j(365, 7200) }), "CET-1CEST,M3.5.0,J365"},
	{with(func(s *footer.Spec) { s.Start, s.End = j(60, 0), j(300, 604799) }), "CET-1CEST,J60/0,J300/167:59:59"},
}

func TestShowAndParse(t *testing.T) {
	for _, x := range pairs {
		is(t, fmt.Sprintf("Show of %+v", x.s), toldText(footer.Show(x.s)), toldText(x.text, api.OK))
		is(t, "Parse of "+x.text, toldSpec(footer.Parse(x.text)), toldSpec(x.s, api.OK))
	}
}

func TestTextsThatAreNone(t *testing.T) {
	for _, s := range []string{
		"", " ", "0", "-1", "CET", "CEST,", "CET,", "CET-", "-1CET", "<>0", "<>", "<", ">", "<0", "<CET", "<+01", "<+01-1", "+01-1", "+01>-1", "<<+01>-1", "<+01>>-1", "<+01>", "<+01>,",
		// names
		"AB0", "ABCDEFG0", "<+0>0", "<+033000>0", "<CET>-1", "CET-1<CEST>,M3.5.0,M10.5.0/3", "<CET>-1CEST,M3.5.0,M10.5.0/3", "CET-1+02,M3.5.0,M10.5.0/3", "CET-1CE,M3.5.0,M10.5.0/3", "CET-1CESTCEST,M3.5.0,M10.5.0/3", "CET-1<+02,M3.5.0,M10.5.0/3", "CET-1<+02M3.5.0,M10.5.0/3", "CET-1+02>,M3.5.0,M10.5.0/3", "CET-1<>,M3.5.0,M10.5.0/3", "CET-1,M3.5.0,M10.5.0/3", "CET-1-2,M3.5.0,M10.5.0/3", "C T-1", "<C T>-1", "CÉT-1", "<CÉT>-1", "<A/B>0", "<+01 >-1", "< +01>-1",
		// offsets
		"CET-01", "CET01", "CET00", "CET-0", "CET+1", "CET+0", "CET--1", "CET-+1", "CET- 1", "CET -1", "CET-1 ", " CET-1", "CET-1\n", "CET-1:0", "CET-1:5", "CET-1:00", "CET-1:00:00", "CET-1:30:00", "CET-1:60", "CET-1:99", "CET-1:00:60", "CET-1:30:0", "CET-1:30:5", "CET-1:", "CET-1:30:", "CET-1:30:30:", "CET-1:30:30:30", "CET-1::30", "CET-:30", "CET-1:-30", "CET-1:+30", "CET-1:030", "CET-1:100", "CET-1:30:030", "CET-0:00", "CET-0:00:00", "CET0:00", "CET-24:00:01", "CET24:01", "CET-25", "CET25", "CET-99", "CET-100", "CET-1000", "CET-024", "CET-1.5", "CET-1e0", "CET-0x1", "CET-１", "CET-9223372036854775808", "CET18446744073709551615", "CET-1CEST-2,M3.5.0,M10.5.0/3", "CET-1CEST-02,M3.5.0,M10.5.0/3", "CET-1CEST-2:00,M3.5.0,M10.5.0/3", "CET-1CEST-0,M3.5.0,M10.5.0/3", "CET-1CEST+3,M3.5.0,M10.5.0/3", "CET-1CEST-3:00,M3.5.0,M10.5.0/3", "CET-1CEST-25,M3.5.0,M10.5.0/3", "CET-1CEST-,M3.5.0,M10.5.0/3", "CET-24CEST,M3.5.0,M10.5.0/3", "CET-23:00:01CEST,M3.5.0,M10.5.0/3", "EST5EDT4,M3.2.0,M11.1.0",
		// edges too few, and too many
		"CET-1CEST", "CET-1CEST-3", "CET-1CEST,", "CET-1CEST,,", "CET-1CEST,M3.5.0", "CET-1CEST,M3.5.0,", "CET-1CEST,,M10.5.0/3", "CET-1CEST,M3.5.0,M10.5.0/3,", "CET-1CEST,M3.5.0,M10.5.0/3,M3.5.0", "CET-1CEST,M3.5.0,,M10.5.0/3", "CET-1CEST,,M3.5.0,M10.5.0/3", "CET-1CESTM3.5.0,M10.5.0/3", "CET-1CEST,M3.5.0M10.5.0/3", "CET-1CEST,M3.5.0;M10.5.0/3", "CET-1CEST,J1", "CET-1CEST,J1,", "CET-1CEST,J1J2", "CET-1,J1,J2", "CET-1M3.5.0",
		// edges
		"CET-1CEST,m3.5.0,M10.5.0/3", "CET-1CEST,M3.5.0,m10.5.0/3", "CET-1CEST,j1,J2", "CET-1CEST,J1,j2", "CET-1CEST,1,J2", "CET-1CEST,J1,2", "CET-1CEST,0,364", "CET-1CEST,3.5.0,M10.5.0/3", "CET-1CEST,M3.5,M10.5.0/3", "CET-1CEST,M3,M10.5.0/3", "CET-1CEST,M,M10.5.0/3", "CET-1CEST,M3.5.,M10.5.0/3", "CET-1CEST,M3..0,M10.5.0/3", "CET-1CEST,M.5.0,M10.5.0/3", "CET-1CEST,M3.5.0.,M10.5.0/3", "CET-1CEST,M3.5.0.0,M10.5.0/3", "CET-1CEST,M3-5-0,M10.5.0/3", "CET-1CEST,M03.5.0,M10.5.0/3", "CET-1CEST,M3.05.0,M10.5.0/3", "CET-1CEST,M3.5.00,M10.5.0/3", "CET-1CEST,M+3.5.0,M10.5.0/3", "CET-1CEST,M3.+5.0,M10.5.0/3", "CET-1CEST,M3.5.+0,M10.5.0/3", "CET-1CEST,M3.5.-0,M10.5.0/3", "CET-1CEST,M-3.5.0,M10.5.0/3", "CET-1CEST,M0.5.0,M10.5.0/3", "CET-1CEST,M13.5.0,M10.5.0/3", "CET-1CEST,M3.0.0,M10.5.0/3", "CET-1CEST,M3.6.0,M10.5.0/3", "CET-1CEST,M3.5.7,M10.5.0/3", "CET-1CEST,M3.5.0,M10.5.7/3", "CET-1CEST,M 3.5.0,M10.5.0/3", "CET-1CEST,M3.5.0 ,M10.5.0/3", "CET-1CEST, M3.5.0,M10.5.0/3", "CET-1CEST ,M3.5.0,M10.5.0/3", "CET-1CEST,J0,J2", "CET-1CEST,J366,J2", "CET-1CEST,J1,J0", "CET-1CEST,J1,J366", "CET-1CEST,J01,J2", "CET-1CEST,J001,J2", "CET-1CEST,J+1,J2", "CET-1CEST,J-1,J2", "CET-1CEST,J,J2", "CET-1CEST,J1,J", "CET-1CEST,J1.1.1,J2", "CET-1CEST,J1000,J2", "CET-1CEST,J18446744073709551617,J2", "CET-1CEST,JM3.5.0,J2", "CET-1CEST,MJ1,J2",
		// seconds
		"CET-1CEST,M3.5.0/2,M10.5.0/3", "CET-1CEST,M3.5.0,M10.5.0/2", "CET-1CEST,J1/2,J2", "CET-1CEST,J1,J2/2", "CET-1CEST,M3.5.0/02,M10.5.0/3", "CET-1CEST,M3.5.0/2:00,M10.5.0/3", "CET-1CEST,M3.5.0/2:00:00,M10.5.0/3", "CET-1CEST,M3.5.0,M10.5.0/03", "CET-1CEST,M3.5.0,M10.5.0/3:00", "CET-1CEST,M3.5.0,M10.5.0/+3", "CET-1CEST,M3.5.0,M10.5.0/-0", "CET-1CEST,M3.5.0,M10.5.0/00", "CET-1CEST,M3.5.0,M10.5.0/", "CET-1CEST,M3.5.0/,M10.5.0", "CET-1CEST,M3.5.0//3,M10.5.0", "CET-1CEST,M3.5.0/3/3,M10.5.0", "CET-1CEST,M3.5.0,M10.5.0/3:60", "CET-1CEST,M3.5.0,M10.5.0/3:5", "CET-1CEST,M3.5.0,M10.5.0/3:30:00", "CET-1CEST,M3.5.0,M10.5.0/168", "CET-1CEST,M3.5.0,M10.5.0/-168", "CET-1CEST,M3.5.0,M10.5.0/167:59:60", "CET-1CEST,M3.5.0,M10.5.0/1000", "CET-1CEST,M3.5.0,M10.5.0/999:59:59", "CET-1CEST,M3.5.0,M10.5.0/--3", "CET-1CEST,M3.5.0,M10.5.0/3s", "CET-1CEST,M3.5.0,M10.5.0/3u", "CET-1CEST,M3.5.0,M10.5.0 /3", "CET-1CEST,M3.5.0,M10.5.0/ 3", "CET-1CEST,M3.5.0,M10.5.0/3 ",
		// ahead of a text, and behind it
		" UTC0", "UTC0 ", "\nUTC0", "UTC0\n", "UTC0\r", "UTC0\x00", "\x00UTC0", ":UTC0", "UTC0UTC0", "UTC0,", "UTC00", "0UTC0", "\"UTC0\"", "\ufeffUTC0", "UTC0CET-1CEST,M3.5.0,M10.5.0/3", "CET-1CEST,M3.5.0,M10.5.0/3UTC0", "TZ=UTC0",
	} {
		is(t, fmt.Sprintf("Parse of %q", s), shown(footer.Parse(s)), kind(api.Syntax))
	}
}

// The model: one pattern of the words, whose numbers are held against their bounds.

const (
	nameForm   = `([A-Za-z]{3,6}|<[A-Za-z0-9+-]*[0-9+-][A-Za-z0-9+-]*>)`
	numberForm = `(-?(?:0|[1-9][0-9]{0,2})(?::(?:0[1-9]|[1-5][0-9]|[0-5][0-9]:(?:0[1-9]|[1-5][0-9])))?)`
	edgeForm   = `,(?:J([1-9][0-9]{0,2})|M([1-9][0-9]?)\.([1-5])\.([0-6]))(?:/` + numberForm + `)?`
)

var textForm = regexp.MustCompile(`\A` + nameForm + numberForm + `(?:` + nameForm + numberForm + `?` + edgeForm + edgeForm + `)?\z`)

func modelNumber(s string) (n int, ok bool) {
	size := 3600
	for _, x := range strings.Split(strings.TrimPrefix(s, "-"), ":") {
		part, err := strconv.Atoi(x)
		if err != nil {
			panic(s)
		}
		n += part * size
		size /= 60
	}
	if strings.HasPrefix(s, "-") {
		return -n, n != 0
	}
	return n, true
}

// modelEdge: of the edge's five parts.
func modelEdge(l []string) (e footer.Edge, ok bool) {
	for i, to := range []*int{&e.Day, &e.Month, &e.Week, &e.Day} {
		if l[i] != "" {
			*to, _ = strconv.Atoi(l[i])
		}
	}
	e.Fixed, e.Sec, ok = l[0] != "", 7200, true
	if l[4] != "" {
		e.Sec, ok = modelNumber(l[4])
		ok = ok && e.Sec != 7200
	}
	return e, ok && e.Month <= 12 && e.Day <= 365 && !beyond(e.Sec, 604799)
}

func beyond(n, most int) bool { return n < -most || n > most }

func modelParse(t string) (footer.Spec, bool) {
	l := textForm.FindStringSubmatch(t)
	if l == nil {
		return footer.Spec{}, false
	}
	bare := func(s string) string { return strings.Trim(s, "<>") }
	off, ok := modelNumber(l[2])
	s := footer.Spec{Std: bare(l[1]), Off: -off}
	ok = ok && len(s.Std) >= 3 && len(s.Std) <= 6 && !beyond(off, 86400)
	if l[3] != "" {
		s.Dst, s.DOff = bare(l[3]), s.Off+3600
		if l[4] != "" {
			n, right := modelNumber(l[4])
			ok = ok && right && -n != s.DOff
			s.DOff = -n
		}
		var one, two bool
		s.Start, one = modelEdge(l[5:10])
		s.End, two = modelEdge(l[10:15])
		ok = ok && one && two && len(s.Dst) >= 3 && len(s.Dst) <= 6 && !beyond(s.DOff, 86400)
	}
	if !ok {
		return footer.Spec{}, false
	}
	return s, true
}

// asTheModel: what is read of a text, and that it is shown as that text.
func asTheModel(t *testing.T, text string) bool {
	t.Helper()
	s, k := footer.Parse(text)
	want, ok := modelParse(text)
	if wanted := map[bool]api.Kind{true: api.OK, false: api.Syntax}[ok]; s != want || k != wanted {
		t.Fatalf("Parse of %q: %s, not %s", text, toldSpec(s, k), toldSpec(want, wanted))
	}
	if ok {
		same(t, "Show of what is read of "+text, toldText(footer.Show(s)), toldText(text, api.OK))
	}
	return ok
}

func TestTheModelOfTexts(t *testing.T) {
	for _, x := range pairs {
		s, ok := modelParse(x.text)
		is(t, "the model of "+x.text, fmt.Sprintf("%+v %v", s, ok), fmt.Sprintf("%+v %v", x.s, true))
	}
}

// each calls f with every text of at most so many parts.
func each(parts []string, most int, f func(s string)) {
	var more func(s string, left int)
	more = func(s string, left int) {
		f(s)
		for _, x := range parts {
			if left > 0 {
				more(s+x, left-1)
			}
		}
	}
	more("", most)
}

func TestParseOfEveryShortText(t *testing.T) {
	right := 0
	count := func(s string) {
		if asTheModel(t, s) {
			right++
		}
	}
	each([]string{"A", "b", "0", "1", "-", "+", ":", "<", ">", ",", " "}, 5, count)
	each([]string{"ABC", "<+1A>", "0", "2", "5", "-", ":", ",J1,J2"}, 6, count)
	each([]string{"/", "1", "2", "0", ":", "-", "00"}, 6, func(s string) {
		count("AB1-1ABC,M3.5.0" + s)
		count("ABC-1ABC,M3.5.0" + s + ",J1")
		count("ABC-1ABC,J2,J3" + s)
	})
	each([]string{",", "M", "J", "3.", "5.", "0", "1", "6", ".", "/3"}, 5, func(s string) { count("ABC0DEF" + s + ",J9"); count("ABC0DEF,M12.1.6" + s) })
	if right < 1500 {
		t.Errorf("just %d texts are right", right)
	}
}

func TestParseOfNumbers(t *testing.T) {
	for n := range 1100 {
		for _, form := range []string{"%d", "0%d", "%02d", "%03d", "-%d", "+%d", "%d:30", "-%d:00:01", "1:%d", "1:%02d", "-0:%d", "0:30:%d", "-167:59:%d", "167:%d", "23:%02d:59", "24:%02d", "0:%02d", "0:00:%02d"} {
			s := fmt.Sprintf(form, n)
			for _, text := range []string{"ABC" + s, "ABC0DEF" + s + ",J1,J2", "ABC0DEF,J1/" + s + ",J2", "ABC0DEF,J1,M1.1.1/" + s, "ABC0DEF,J1,J" + s, "ABC0DEF,M" + s + ".1.1,J2", "ABC0DEF,M1." + s + ".1,J2", "ABC0DEF,J1,M1.1." + s} {
				asTheModel(t, text)
			}
		}
	}
}

func TestParseOfTextsWithOneChange(t *testing.T) {
	for _, x := range pairs {
		for i := range len(x.text) + 1 {
			asTheModel(t, x.text[:i])
			asTheModel(t, x.text[i:])
			for c := range 256 {
				put := string([]byte{byte(c)})
				asTheModel(t, x.text[:i]+put+x.text[i:])
				if i < len(x.text) {
					asTheModel(t, x.text[:i]+put+x.text[i+1:])
				}
			}
			for n := i + 1; n <= len(x.text); n++ {
				asTheModel(t, x.text[:i]+x.text[n:])
				asTheModel(t, x.text[:n]+x.text[i:])
			}
		}
	}
}

func TestParseByChance(t *testing.T) {
	r := rand.New(rand.NewSource(1701))
	parts := []string{"ABC", "DEFG", "<+01>", "<A1b>", "<ABC>", "0", "1", "-", "+", ":", ":30", ":05", ",", ",M3.5.0", ",M10.1.6", ",J60", ",J365", "/", "/2", "/3", "/-1", "/167:59:59", "/25:30", "M", "J", ".", " ", "24", "9", "00"}
	right := 0
	for range 400000 {
		var s strings.Builder
		for range 1 + r.Intn(9) {
			s.WriteString(parts[r.Intn(len(parts))])
		}
		text := s.String()
		if r.Intn(3) > 0 { // most often what a text begins with, and ends with
			text = anyOf(r, "ABC-1", "<+01>5:30", "ABC0") + text + anyOf(r, "", ",J1,J2", ",M3.5.0,M10.5.0/3", ",M4.1.0")
		}
		if asTheModel(t, text) {
			right++
		}
	}
	if right < 3000 {
		t.Errorf("just %d texts are right", right)
	}
}

func TestLongTexts(t *testing.T) {
	for _, n := range []int{100, 1 << 16} {
		for _, x := range []string{"A", "1", "-", ":", "<", ">", ",", ",J1", ":30", "M1.1.1,", "ABC0", "\xff"} {
			long := strings.Repeat(x, n)
			for _, text := range []string{long, "ABC0" + long, "ABC" + long, "<" + long + ">0", long + "0", "ABC0DEF" + long, "ABC0DEF," + long, "ABC0DEF,J1/" + long + ",J2", "ABC0DEF,J" + long + ",J2", "ABC0DEF,M1.1." + long + ",J2", "ABC0DEF,J1,J2" + long} {
				is(t, fmt.Sprintf("Parse of %.30q", text), shown(footer.Parse(text)), kind(api.Syntax))
			}
		}
	}
}

// All numbers of seconds there are.

func modelSeconds(n int) string {
	sign := ""
	if n < 0 {
		sign, n = "-", -n
	}
	s := fmt.Sprintf("%s%d:%02d:%02d", sign, n/3600, n/60%60, n%60)
	if s, ok := strings.CutSuffix(s, ":00"); ok {
		s, _ = strings.CutSuffix(s, ":00")
		return s
	}
	return s
}

func TestEveryOffset(t *testing.T) {
	for off := -86400; off <= 86400; off++ {
		s := footer.Spec{Std: "ABC", Off: off}
		text := "ABC" + modelSeconds(-off)
		same(t, "Show", toldText(footer.Show(s)), toldText(text, api.OK))
		if back, k := footer.Parse(text); back != s || k != api.OK {
			t.Fatalf("Parse of %q: %s", text, toldSpec(back, k))
		}
	}
	for off := -86400; off <= 86400; off += 7 {
		for _, std := range []int{off - 3600, off - 3599, off - 3601, off, 0} {
			if beyond(std, 86400) {
				continue
			}
			s := with(func(s *footer.Spec) { s.Off, s.DOff = std, off })
			text := "CET" + modelSeconds(-std) + "CEST" + modelSeconds(-off) + ",M3.5.0,M10.5.0/3"
			if off == std+3600 {
				text = "CET" + modelSeconds(-std) + "CEST,M3.5.0,M10.5.0/3"
			}
			same(t, "Show", toldText(footer.Show(s)), toldText(text, api.OK))
			same(t, "Parse of "+text, toldSpec(footer.Parse(text)), toldSpec(s, api.OK))
		}
	}
}

func TestEverySecondsOfAnEdge(t *testing.T) {
	for sec := -604799; sec <= 604799; sec++ {
		if sec%17 != 0 && sec%300 != 0 && !(beyond(sec, 604700) || !beyond(sec, 8000)) {
			continue
		}
		end := "/" + modelSeconds(sec)
		if sec == 7200 {
			end = ""
		}
		s := with(func(s *footer.Spec) { s.Start, s.End = j(60, sec), m(11, 1, 6, sec) })
		text := "CET-1CEST,J60" + end + ",M11.1.6" + end
		same(t, "Show", toldText(footer.Show(s)), toldText(text, api.OK))
		if back, k := footer.Parse(text); back != s || k != api.OK {
			t.Fatalf("Parse of %q: %s", text, toldSpec(back, k))
		}
	}
}

func TestEveryEdge(t *testing.T) {
	check := func(a, b footer.Edge, text string) {
		t.Helper()
		s := with(func(s *footer.Spec) { s.Start, s.End = a, b })
		same(t, "Show", toldText(footer.Show(s)), toldText("CET-1CEST,"+text, api.OK))
		same(t, "Parse of "+text, toldSpec(footer.Parse("CET-1CEST,"+text)), toldSpec(s, api.OK))
	}
	for day := 1; day <= 365; day++ {
		check(j(day, 7200), j(366-day, 0), fmt.Sprintf("J%d,J%d/0", day, 366-day))
	}
	for month := 1; month <= 12; month++ {
		for week := 1; week <= 5; week++ {
			for day := range 7 {
				check(m(month, week, day, -3600), m(13-month, 6-week, 6-day, 7200), fmt.Sprintf("M%d.%d.%d/-1,M%d.%d.%d", month, week, day, 13-month, 6-week, 6-day))
			}
		}
	}
}

func anyOf[T any](r *rand.Rand, l ...T) T { return l[r.Intn(len(l))] }
