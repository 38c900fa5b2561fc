package clock_test

import (
	"fmt"
	"math"
	"regexp"
	"strconv"
	"strings"
	"testing"

	"noonmark/api"
	"noonmark/clock"
)

func is(t *testing.T, what, got, want string) {
	t.Helper()
	if got != want {
		t.Errorf("%.80s: %s, not %s", what, got, want)
	}
}

// same is for long loops: it stops at the first fault.
func same(t *testing.T, what, got, want string) {
	t.Helper()
	if got != want {
		t.Fatalf("%.80s: %s, not %s", what, got, want)
	}
}

// toldAt, toldAmount, toldText: an answer as a text.

func toldAt(a api.At, k api.Kind) string { return fmt.Sprint(a.Sec, " ", a.Kind, " ", int(k)) }

func toldAmount(n int, k api.Kind) string { return fmt.Sprint(n, " ", int(k)) }

func toldText(s string, k api.Kind) string { return fmt.Sprintf("%q %d", s, int(k)) }

func parsed(s string) string { return toldAt(clock.Parse(s)) }

func amount(s string) string { return toldAmount(clock.Amount(s)) }

func shown(sec, kind int) string { return toldText(clock.Show(api.At{Sec: sec, Kind: kind})) }

func shownAmount(n int) string { return toldText(clock.ShowAmount(n)) }

const (
	mostSec    = 604799 // of a time
	mostAmount = 86400
)

const (
	noTime   = "0 0 7" // of Parse
	noAmount = "0 7"   // of Amount
	noText   = `"" 1`  // of Show, ShowAmount
)

// wild: numbers that are no time, no amount and no kind of a time.
var wild = []int{
	math.MinInt, math.MinInt + 1, math.MinInt + 604799, math.MinInt + 604800, math.MinInt32 - 1, math.MinInt32, math.MinInt32 + 1, -1 << 53, -1 << 32, -1<<32 + 1, -1000000, -604801, -604800,
	604800, 604801, 1000000, 1 << 32, 1<<32 + 1, 1<<32 + 3600, 1 << 53, math.MaxInt32 - 1, math.MaxInt32, math.MaxInt32 + 1, math.MaxInt - 604800, math.MaxInt - 604799, math.MaxInt - 1, math.MaxInt,
}

// aTime: the words' text of a time, with its suffix, as a pattern.
var aTime = regexp.MustCompile(`\A(-?)([0-9]{1,3})(?::([0-5][0-9])(?::([0-5][0-9]))?)?([wsugz]?)\z`)

// model: what Parse and Amount answer, told by the pattern.
func model(s string) (at, amount string) {
	if s == "-" {
		return "0 0 0", "0 0"
	}
	part := aTime.FindStringSubmatch(s)
	if part == nil {
		return noTime, noAmount
	}
	number := func(i int) int {
		n, _ := strconv.Atoi("0" + part[i])
		return n
	}
	if number(2) > 167 {
		return noTime, noAmount
	}
	sec := (number(2)*60+number(3))*60 + number(4)
	amount = noAmount
	if part[5] == "" && sec <= mostAmount {
		amount = fmt.Sprint(part[1], sec, " 0")
	}
	kind := map[string]int{"": 0, "w": 0, "s": 1, "u": 2, "g": 2, "z": 2}[part[5]]
	at = fmt.Sprint(part[1], sec, " ", kind, " 0")
	if sec == 0 {
		at, amount = strings.TrimPrefix(at, "-"), strings.TrimPrefix(amount, "-")
	}
	return at, amount
}

func asTheModel(t *testing.T, s string) {
	t.Helper()
	at, n := model(s)
	same(t, fmt.Sprintf("Parse of %q", s), parsed(s), at)
	same(t, fmt.Sprintf("Amount of %q", s), amount(s), n)
}

// modelText: the text of a time, without a suffix, by the library's writer.
func modelText(sec int) string {
	sign, n := "", sec
	if sec < 0 {
		sign, n = "-", -sec
	}
	s := fmt.Sprintf("%s%d:%02d:%02d", sign, n/3600, n/60%60, n%60)
	return strings.TrimSuffix(s, ":00")
}

// everyText calls f with every text of at most n of these bytes.
func everyText(n int, letters string, f func(s string)) {
	f("")
	if n == 0 {
		return
	}
	for i := range len(letters) {
		everyText(n-1, letters, func(s string) { f(letters[i:i+1] + s) })
	}
}

// P501: Parse, Amount.

func TestTimesAndAmounts(t *testing.T) {
	for _, x := range []struct {
		s   string
		sec int
	}{
		{"-", 0}, {"0", 0}, {"-0", 0}, {"00", 0}, {"000", 0}, {"0:00", 0}, {"-0:00", 0}, {"0:00:00", 0}, {"-0:00:00", 0}, {"000:00:00", 0},
		{"2", 7200}, {"02", 7200}, {"002", 7200}, {"10", 36000}, {"010", 36000}, {"23", 82800}, {"-2", -7200}, {"-02", -7200}, {"-002", -7200}, {"8", 28800}, {"09", 32400},
		{"2:00", 7200}, {"1:30", 5400}, {"-1:30", -5400}, {"001:30", 5400}, {"0:01", 60}, {"0:09", 540}, {"0:10", 600}, {"0:59", 3540}, {"-0:30", -1800}, {"12:34", 45240},
		{"1:30:05", 5405}, {"-1:30:05", -5405}, {"0:00:01", 1}, {"-0:00:01", -1}, {"0:00:59", 59}, {"0:59:59", 3599}, {"12:34:56", 45296}, {"-12:34:56", -45296}, {"0:53:28", 3208}, {"-4:56:02", -17762},
		{"23:59:59", 86399}, {"-23:59:59", -86399}, {"24", 86400}, {"024", 86400}, {"24:00", 86400}, {"24:00:00", 86400}, {"-24", -86400}, {"-24:00", -86400}, {"-24:00:00", -86400},
	} {
		is(t, "Parse of "+x.s, parsed(x.s), fmt.Sprint(x.sec, " 0 0"))
		is(t, "Amount of "+x.s, amount(x.s), fmt.Sprint(x.sec, " 0"))
	}
}

func TestTimesThatAreNoAmounts(t *testing.T) {
	for _, x := range []struct {
		s   string
		sec int
	}{
		{"24:00:01", 86401}, {"-24:00:01", -86401}, {"24:01", 86460}, {"-24:01", -86460}, {"24:59:59", 89999}, {"25", 90000}, {"025", 90000}, {"-25", -90000}, {"26", 93600}, {"99", 356400}, {"-99:59:59", -359999},
		{"100", 360000}, {"-100", -360000}, {"124", 446400}, {"167", 601200}, {"-167", -601200}, {"167:00", 601200}, {"167:59", 604740}, {"167:59:59", mostSec}, {"-167:59:59", -mostSec},
	} {
		is(t, "Parse of "+x.s, parsed(x.s), fmt.Sprint(x.sec, " 0 0"))
		is(t, "Amount of "+x.s, amount(x.s), noAmount)
	}
}

func TestSuffixes(t *testing.T) {
	for _, x := range []struct {
		suffix string
		kind   int
	}{{"w", 0}, {"s", 1}, {"u", 2}, {"g", 2}, {"z", 2}} {
		for _, y := range []struct {
			s   string
			sec int
		}{{"2:00", 7200}, {"2", 7200}, {"0", 0}, {"-0", 0}, {"-1:30", -5400}, {"1:30:05", 5405}, {"24", 86400}, {"24:00:01", 86401}, {"167:59:59", mostSec}, {"-167:59:59", -mostSec}} {
			is(t, "Parse of "+y.s+x.suffix, parsed(y.s+x.suffix), fmt.Sprint(y.sec, " ", x.kind, " 0"))
			is(t, "Amount of "+y.s+x.suffix, amount(y.s+x.suffix), noAmount)
		}
	}
}

func TestTextsThatAreNone(t *testing.T) {
	for _, s := range []string{
		"", "--", "--2", "--2:00", "-+2", "+", "+2", "2-", "2:00-", "2:-00", "2:0-0", "-2-", "2-2", "1:30:-05", "-:", "-:00", "- 2", "-2:00-",
		"0000", "0002", "1000", "2000:00", "-0002", "168", "-168", "168:00", "168:00:00", "-168:00:00", "169", "170", "200", "256", "257", "258", "512", "999", "-999:59:59", "1024", "65536", "4294967296", "4294967298", "18446744073709551616",
		"2:", "2:0", "2:000", "2:001", "2:60", "2:61", "2:69", "2:70", "2:99", "2:100", "-2:60", "2:60:00", "0:60", "0:64",
		"2:00:", "2:00:0", "2:00:000", "2:00:60", "2:00:61", "2:00:99", "-2:00:60", "2:0:00", "2::00", "2:00::00", "2:00:00:", "2:00:00:00", "2:00:00.0", "2:00:00.5", "2.5",
		":", "::", ":00", ":00:00", ":2:00", "-w", "-s", "-u", "-g", "-z", "-ww", "w", "s", "u", "g", "z", "ws",
		"2:00W", "2:00S", "2:00U", "2:00G", "2:00Z", "2W", "2S", "2U", "2G", "2Z", "2:00ws", "2:00ww", "2:00ss", "2:00uu", "2:00su", "2:00sw", "2:00wS", "2:00a", "2:00d", "2:00t", "2:00h", "2:00r", "2:00x", "2:00v", "2:00y", "2h", "2:s", "2:0s", "2:00:s", "2:00:0s", "s2:00", "w2", "2s:00", "2:00s:00",
		" ", " 2:00", "2:00 ", "2 :00", "2: 00", "2:00 s", "2:00s ", "\t2", "2\t", "2\n", "\n2", "2\r", "2:00\x00", "\x002", "- ", " -", "-\n", "-\x00",
		"/", "2/", "2:/0", "2:0/", "2:00:/0", "2:00:0/", ";", "2;", "2;00", "2:;0", "2:0;", "0x2", "1e1", "1_0", "a", "2:0a", "\xb2", "2:\xb20", "2:00\xf3", "２", "٢:00", "–2", "−2", "2：00", "2:00ｓ", "2:00\u00a0",
	} {
		is(t, fmt.Sprintf("Parse of %q", s), parsed(s), noTime)
		is(t, fmt.Sprintf("Amount of %q", s), amount(s), noAmount)
	}
}

func TestEveryNumberOfHours(t *testing.T) {
	for hours := range 12000 {
		for _, form := range []string{"%d", "%02d", "%03d", "%04d", "-%d", "-%02d", "-%03d", "%d:59:59", "-%d:59:59", "%du", "%03d:00s"} {
			asTheModel(t, fmt.Sprintf(form, hours))
		}
	}
}

func TestEveryNumberOfMinutesAndSeconds(t *testing.T) {
	for n := range 1200 {
		for _, form := range []string{"1:%d", "1:%02d", "1:%03d", "1:00:%d", "1:00:%02d", "1:00:%03d", "-1:%02d", "-1:00:%02d", "1:%02du", "1:00:%02dz", "1:%02d:59", "24:00:%02d", "24:%02d", "-24:%02d:00"} {
			asTheModel(t, fmt.Sprintf(form, n))
		}
	}
}

func TestPartsRightAndWrong(t *testing.T) {
	sixtieths := []string{"", ":", ":0", ":9", ":00", ":07", ":59", ":60", ":99", ":000", ":-1", ": 1", ":1s", ":/1", ":1;"}
	for _, sign := range []string{"", "-", "--", "+", " ", "- "} {
		for _, hours := range []string{"", "0", "9", "00", "23", "24", "25", "99", "167", "168", "999", "0000", "2/", ";"} {
			for _, minutes := range sixtieths {
				for _, seconds := range sixtieths {
					for _, suffix := range []string{"", "w", "s", "u", "g", "z", "W", "S", "a", "ws", "-", " ", "\n"} {
						asTheModel(t, sign+hours+minutes+seconds+suffix)
					}
				}
			}
		}
	}
}

func TestEveryShortText(t *testing.T) {
	everyText(5, "-:0126sw/", func(s string) { asTheModel(t, s) })
	everyText(7, "-:05u", func(s string) { asTheModel(t, s) })
}

func TestEveryTextOfTwoBytes(t *testing.T) {
	for a := range 256 {
		asTheModel(t, string([]byte{byte(a)}))
		for b := range 256 {
			asTheModel(t, string([]byte{byte(a), byte(b)}))
		}
	}
}

func TestEveryByteAtEveryPlace(t *testing.T) {
	for _, s := range []string{"-", "2", "-12", "167", "2:00", "-1:30u", "24:00:00", "-24:00:01", "123:45:56s", "-167:59:59z"} {
		for i := range len(s) + 1 {
			for c := range 256 {
				between := s[:i] + string([]byte{byte(c)})
				asTheModel(t, between+s[i:])
				if i < len(s) {
					asTheModel(t, between+s[i+1:])
				}
			}
		}
	}
}

func TestLongTexts(t *testing.T) {
	for _, s := range []string{"0", "1", "9", "-", ":", "s", "2:00", "-2", ":00", "2:00s", " ", "\x00", "\xff"} {
		for _, n := range []int{5, 20, 255, 256, 257, 65536, 1 << 20} {
			long := strings.Repeat(s, n)
			for _, x := range []string{long, "2" + long, "-2" + long, "2:00" + long, "2:00:00" + long, "-" + long} {
				is(t, "Parse of "+x, parsed(x), noTime)
				is(t, "Amount of "+x, amount(x), noAmount)
			}
		}
	}
}

// P502: Show, ShowAmount.

func TestShowOfOrdinaryTimes(t *testing.T) {
	for _, x := range []struct {
		sec  int
		want string
	}{
		{0, "0:00"}, {1, "0:00:01"}, {-1, "-0:00:01"}, {9, "0:00:09"}, {10, "0:00:10"}, {59, "0:00:59"}, {60, "0:01"}, {-60, "-0:01"}, {61, "0:01:01"}, {600, "0:10"}, {1800, "0:30"}, {-1800, "-0:30"}, {3540, "0:59"}, {3599, "0:59:59"}, {-3599, "-0:59:59"},
		{3600, "1:00"}, {-3600, "-1:00"}, {3601, "1:00:01"}, {5400, "1:30"}, {-5400, "-1:30"}, {5405, "1:30:05"}, {-5405, "-1:30:05"}, {7200, "2:00"}, {32400, "9:00"}, {35999, "9:59:59"}, {36000, "10:00"}, {-36000, "-10:00"}, {45296, "12:34:56"}, {-17762, "-4:56:02"},
		{82800, "23:00"}, {86399, "23:59:59"}, {-86399, "-23:59:59"}, {86400, "24:00"}, {-86400, "-24:00"},
	} {
		for kind, suffix := range []string{"", "s", "u"} {
			is(t, fmt.Sprint("Show of ", x.sec, " ", kind), shown(x.sec, kind), strconv.Quote(x.want+suffix)+" 0")
		}
		is(t, fmt.Sprint("ShowAmount of ", x.sec), shownAmount(x.sec), strconv.Quote(x.want)+" 0")
	}
}

func TestShowBeyondADay(t *testing.T) {
	for _, x := range []struct {
		sec  int
		want string
	}{
		{86401, "24:00:01"}, {-86401, "-24:00:01"}, {86460, "24:01"}, {93600, "26:00"}, {-93600, "-26:00"}, {359999, "99:59:59"}, {360000, "100:00"}, {-360000, "-100:00"}, {601200, "167:00"}, {604740, "167:59"}, {-604740, "-167:59"},
		{604798, "167:59:58"}, {-604798, "-167:59:58"}, {mostSec, "167:59:59"}, {-mostSec, "-167:59:59"},
	} {
		for kind, suffix := range []string{"", "s", "u"} {
			is(t, fmt.Sprint("Show of ", x.sec, " ", kind), shown(x.sec, kind), strconv.Quote(x.want+suffix)+" 0")
		}
		is(t, fmt.Sprint("ShowAmount of ", x.sec), shownAmount(x.sec), noText)
	}
}

func TestShowBeyondItsEdges(t *testing.T) {
	for _, sec := range wild {
		for _, kind := range append([]int{-2, -1, 0, 1, 2, 3, 4}, wild...) {
			is(t, fmt.Sprint("Show of ", sec, " ", kind), shown(sec, kind), noText)
		}
		is(t, fmt.Sprint("ShowAmount of ", sec), shownAmount(sec), noText)
	}
	for _, kind := range append([]int{-256, -255, -2, -1, 3, 4, 7, 256, 257, 258, 65537}, wild...) {
		for _, sec := range []int{0, 1, -1, 3600, 7200, -5405, 86400, mostSec, -mostSec} {
			is(t, fmt.Sprint("Show of ", sec, " ", kind), shown(sec, kind), noText)
		}
	}
}

func TestShowOfEveryTimeAndAFewMore(t *testing.T) {
	for sec := -mostSec - 4000; sec <= mostSec+4000; sec++ {
		want, wantKind := modelText(sec), api.OK
		if sec < -mostSec || sec > mostSec {
			want, wantKind = "", api.BadArg
		}
		for kind, suffix := range []string{"", "s", "u"} {
			s, k := clock.Show(api.At{Sec: sec, Kind: kind})
			text, right := strings.CutSuffix(s, suffix)
			if k != wantKind || text != want || !right && k == api.OK {
				t.Fatalf("Show of %d %d: %q %d, not %q and %q, %d", sec, kind, s, int(k), want, suffix, int(wantKind))
			}
		}
	}
}

func TestShowAmountOfEveryAmountAndAFewMore(t *testing.T) {
	for n := -mostAmount - 520000; n <= mostAmount+520000; n++ { // beyond what a time may be
		s, k := clock.ShowAmount(n)
		want, wantKind := "", api.BadArg
		if -mostAmount <= n && n <= mostAmount {
			want, wantKind = modelText(n), api.OK
		}
		if s != want || k != wantKind {
			t.Fatalf("ShowAmount of %d: %q %d, not %q %d", n, s, int(k), want, int(wantKind))
		}
	}
}

// P503: laws.

func TestATimeIsReadAsItWas(t *testing.T) {
	for sec := -mostSec; sec <= mostSec; sec++ {
		for kind := range 3 {
			a := api.At{Sec: sec, Kind: kind}
			s, k := clock.Show(a)
			if back, j := clock.Parse(s); back != a || k != api.OK || j != api.OK {
				t.Fatalf("%v is shown %q, kind %d, and read as %v, kind %d", a, s, int(k), back, int(j))
			}
		}
	}
}

func TestAnAmountIsReadAsItWas(t *testing.T) {
	for n := -mostAmount; n <= mostAmount; n++ {
		s, k := clock.ShowAmount(n)
		if back, j := clock.Amount(s); back != n || k != api.OK || j != api.OK {
			t.Fatalf("%d is shown %q, kind %d, and read as %d, kind %d", n, s, int(k), back, int(j))
		}
		if a, j := clock.Parse(s); a != (api.At{Sec: n}) || j != api.OK {
			t.Fatalf("%d is shown %q, and read as the time %v, kind %d", n, s, a, int(j))
		}
	}
}

func TestWhatIsReadIsShownAsTheSame(t *testing.T) {
	everyText(5, "-:0126sw", func(s string) {
		a, k := clock.Parse(s)
		if k != api.OK {
			return
		}
		text, k := clock.Show(a)
		back, j := clock.Parse(text)
		if back != a || k != api.OK || j != api.OK {
			t.Fatalf("%q is read as %v, shown %q, kind %d, and read as %v, kind %d", s, a, text, int(k), back, int(j))
		}
	})
}

func TestACallKeepsNothing(t *testing.T) {
	for range 3 {
		for _, s := range []string{"2:00s", "x", "-", "1:60", "-1:30u", "", "167:59:59", "24:00:01"} {
			asTheModel(t, s)
		}
		is(t, "Show", shown(-5405, 2), `"-1:30:05u" 0`)
		is(t, "Show", shown(7200, 3), noText)
		is(t, "ShowAmount", shownAmount(86401), noText)
		is(t, "ShowAmount", shownAmount(-86400), `"-24:00" 0`)
	}
}
