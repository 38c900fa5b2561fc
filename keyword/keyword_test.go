package keyword_test

import (
	"fmt"
	"math"
	"math/rand"
	"regexp"
	"slices"
	"strconv"
	"strings"
	"testing"

	"noonmark/api"
	"noonmark/keyword"
)

func is(t *testing.T, what, got, want string) {
	t.Helper()
	if got != want {
		t.Errorf("%.120s: %s, not %s", what, got, want)
	}
}

// same is for long loops: it stops at the first fault.
func same(t *testing.T, what, got, want string) {
	t.Helper()
	if got != want {
		t.Fatalf("%.120s: %s, not %s", what, got, want)
	}
}

// toldYear, toldText: an answer as a text.

func toldYear(y int, k api.Kind) string { return fmt.Sprint(y, " ", int(k)) }

func toldText(s string, k api.Kind) string { return fmt.Sprintf("%q %d", s, int(k)) }

func year(y int) string { return toldYear(y, api.OK) }

func from(s string) string { return toldYear(keyword.From(s)) }

func to(s string, from int) string { return toldYear(keyword.To(s, from)) }

func shown(from, to int) string { return toldText(keyword.ShowTo(from, to)) }

const (
	noYear = "0 8"  // of From, and To
	noText = `"" 8` // of ShowTo
)

// word: of a list, with its number there, and the least begin that stands for it.
type word struct {
	least, whole string
	n            int
}

func heads() []word { return []word{{"r", "rule", 1}, {"z", "zone", 2}, {"l", "link", 3}} }

func months() []word {
	return []word{
		{"ja", "january", 1}, {"f", "february", 2}, {"mar", "march", 3}, {"ap", "april", 4}, {"may", "may", 5}, {"jun", "june", 6},
		{"jul", "july", 7}, {"au", "august", 8}, {"s", "september", 9}, {"o", "october", 10}, {"n", "november", 11}, {"d", "december", 12},
	}
}

// limits: the words of a rule's last year; minimum stands for none.
func limits() []word {
	return []word{{"o", "only", 1}, {"ma", "maximum", 2}, {"mi", "minimum", 3}}
}

const asked = 1987 // the first year of the rules of which limit asks

// limit: which of the words of a last year is s? 0: none.
func limit(s string) int {
	switch y, k := keyword.To(s, asked); {
	case y == asked && k == api.OK:
		return 1
	case y == api.Endless && k == api.OK:
		return 2
	case y == 0 && k == api.BadYear:
		return 0
	}
	return -1
}

// list: of words, and what asks which of them a text stands for.
type list struct {
	name  string
	words []word
	ask   func(s string) int
}

func lists() []list {
	return []list{{"Head", heads(), keyword.Head}, {"Month", months(), keyword.Month}, {"To", limits()[:2], limit}}
}

// model: which of the words does s stand for? Their least begins are written out, so no word is held against another one.
func (l list) model(s string) int {
	low := []byte(s)
	for i, c := range low {
		if c >= 'A' && c <= 'Z' {
			low[i] = c + 32
		}
	}
	for _, w := range l.words {
		if strings.HasPrefix(string(low), w.least) && strings.HasPrefix(w.whole, string(low)) {
			return w.n
		}
	}
	return 0
}

func (l list) asTheModel(t *testing.T, s string) {
	t.Helper()
	same(t, fmt.Sprintf("%s of %q", l.name, s), fmt.Sprint(l.ask(s)), fmt.Sprint(l.model(s)))
}

// allWords: of all lists.
func allWords() []string {
	var l []string
	for _, w := range slices.Concat(heads(), months(), limits()) {
		l = append(l, w.whole)
	}
	return l
}

// everyCase calls f with s in each mix of small and great letters.
func everyCase(s string, f func(s string)) {
	if s == "" {
		f("")
		return
	}
	everyCase(s[1:], func(rest string) {
		f(strings.ToLower(s[:1]) + rest)
		f(strings.ToUpper(s[:1]) + rest)
	})
}

// cases: s in small letters, in great ones, with a great first one, and with each second one great.
func cases(s string) []string {
	mixed := []byte(strings.ToUpper(s))
	for i := 1; i < len(mixed); i += 2 {
		mixed[i] += 32
	}
	return []string{s, strings.ToUpper(s), strings.ToUpper(s[:1]) + s[1:], string(mixed)}
}

// everyText calls f with every text of at most n of these letters.
func everyText(n int, letters []string, f func(s string)) {
	f("")
	if n == 0 {
		return
	}
	for _, x := range letters {
		everyText(n-1, letters, func(s string) { f(x + s) })
	}
}

func split(letters string) []string { return strings.Split(letters, "") }

// allBytes: each byte as a text.
func allBytes() []string {
	var l []string
	for i := range 256 {
		l = append(l, string([]byte{byte(i)}))
	}
	return l
}

// P801: Head, Month, ShowMonth.

func TestHeads(t *testing.T) {
	for _, x := range []struct {
		s    string
		want int
	}{
		{"Rule", 1}, {"rule", 1}, {"RULE", 1}, {"rULE", 1}, {"R", 1}, {"r", 1}, {"ru", 1}, {"Rul", 1},
		{"Zone", 2}, {"zone", 2}, {"ZONE", 2}, {"Z", 2}, {"z", 2}, {"zo", 2}, {"ZoN", 2},
		{"Link", 3}, {"link", 3}, {"LINK", 3}, {"L", 3}, {"l", 3}, {"LI", 3}, {"lin", 3},
		{"", 0}, {"x", 0}, {"-", 0}, {"1", 0}, {"rules", 0}, {"Rule ", 0}, {" Rule", 0}, {"ule", 0}, {"rl", 0}, {"zone1", 0}, {"zne", 0}, {"links", 0}, {"lnk", 0}, {"rzl", 0}, {"leap", 0}, {"January", 0}, {"only", 0}, {"e", 0}, {"k", 0},
		{"Lin\u212a", 0}, {"lin\u212a", 0}, {"Ｒule", 0}, {"R\x00", 0},
	} {
		is(t, fmt.Sprintf("Head of %q", x.s), fmt.Sprint(keyword.Head(x.s)), fmt.Sprint(x.want))
	}
}

func TestMonths(t *testing.T) {
	for _, x := range []struct {
		s    string
		want int
	}{
		{"ju", 0}, {"jun", 6}, {"ma", 0}, {"m", 0}, {"j", 0}, {"a", 0}, {"JU", 0}, {"Ma", 0}, {"M", 0}, {"J", 0}, {"A", 0}, {"jU", 0},
		{"Jan", 1}, {"ja", 1}, {"January", 1}, {"f", 2}, {"FEB", 2}, {"mar", 3}, {"March", 3}, {"ap", 4}, {"Apr", 4}, {"may", 5}, {"MAY", 5}, {"June", 6}, {"jul", 7}, {"July", 7}, {"au", 8}, {"AUGUST", 8},
		{"s", 9}, {"Sept", 9}, {"september", 9}, {"o", 10}, {"oct", 10}, {"n", 11}, {"Novem", 11}, {"d", 12}, {"deCEMber", 12},
		{"", 0}, {"1", 0}, {"01", 0}, {"12", 0}, {"x", 0}, {"Jan.", 0}, {"Jan ", 0}, {" Jan", 0}, {"Januarys", 0}, {"Janaury", 0}, {"Mayo", 0}, {"may ", 0}, {"junee", 0}, {"juny", 0}, {"julie", 0}, {"augt", 0}, {"sept.", 0}, {"setp", 0}, {"decembers", 0}, {"an", 0}, {"uary", 0}, {"Rule", 0}, {"only", 0}, {"max", 0}, {"maximum", 0}, {"on", 0},
		{"\u017feptember", 0}, {"Augu\u017ft", 0}, {"\u017f", 0}, {"м", 0}, {"d\xe9cembre", 0}, {"mär", 0}, {"jan\x00", 0},
	} {
		is(t, fmt.Sprintf("Month of %q", x.s), fmt.Sprint(keyword.Month(x.s)), fmt.Sprint(x.want))
	}
}

// TestEveryBegin: of each word, in each mix of small and great letters, to each list.
func TestEveryBegin(t *testing.T) {
	for _, l := range lists() {
		l.asTheModel(t, "")
		for _, w := range allWords() {
			for n := 1; n <= len(w); n++ {
				everyCase(w[:n], func(s string) { l.asTheModel(t, s) })
			}
		}
	}
}

// TestBeginsOfTwoWords: they stand for none; one byte more makes the word plain.
func TestBeginsOfTwoWords(t *testing.T) {
	for _, x := range []struct {
		s    string
		more []string
		want []int
	}{
		{"j", []string{"ja", "ju"}, []int{1, 0}},
		{"ju", []string{"jun", "jul"}, []int{6, 7}},
		{"m", []string{"ma"}, []int{0}},
		{"ma", []string{"mar", "may"}, []int{3, 5}},
		{"a", []string{"ap", "au"}, []int{4, 8}},
	} {
		everyCase(x.s, func(s string) {
			is(t, fmt.Sprintf("Month of %q", s), fmt.Sprint(keyword.Month(s)), "0")
		})
		for i, longer := range x.more {
			everyCase(longer, func(s string) {
				is(t, fmt.Sprintf("Month of %q", s), fmt.Sprint(keyword.Month(s)), fmt.Sprint(x.want[i]))
			})
		}
	}
}

// TestWordsWithAByteMore: behind a begin of a word, ahead of it, and anywhere in it, each byte there is.
func TestWordsWithAByteMore(t *testing.T) {
	for _, l := range lists() {
		for _, w := range allWords() {
			for _, s := range cases(w) {
				for n := range len(s) + 1 {
					for _, c := range allBytes() {
						l.asTheModel(t, s[:n]+c)
						l.asTheModel(t, c+s[:n])
						l.asTheModel(t, s[:n]+c+s[n:])
					}
				}
			}
		}
	}
}

// TestWordsWithAnotherByte: at each place of a whole word, and of a begin of it.
func TestWordsWithAnotherByte(t *testing.T) {
	for _, l := range lists() {
		for _, w := range allWords() {
			for _, s := range cases(w) {
				for n := range len(s) {
					for _, c := range allBytes() {
						l.asTheModel(t, s[:n]+c+s[n+1:])
						l.asTheModel(t, c+s[1:n+1])
					}
					l.asTheModel(t, s[:n]+s[n+1:])
					l.asTheModel(t, s[n:])
				}
			}
		}
	}
}

// TestBytesAboutLetters: those just below and above the letters, and those that a letter would be with another bit.
func TestBytesAboutLetters(t *testing.T) {
	for _, c := range split("@[`{/:^~\x00\x1a\x1f") {
		for _, w := range allWords() {
			for _, s := range []string{c, c + w, w + c, w[:1] + c, c + w[1:]} {
				is(t, fmt.Sprintf("Head of %q", s), fmt.Sprint(keyword.Head(s)), "0")
				is(t, fmt.Sprintf("Month of %q", s), fmt.Sprint(keyword.Month(s)), "0")
				is(t, fmt.Sprintf("To of %q", s), to(s, asked), noYear)
			}
		}
	}
	for _, w := range allWords() {
		for i := range len(w) {
			for bit := range 8 {
				for _, s := range cases(w) {
					other := []byte(s)
					other[i] ^= 1 << bit
					for _, l := range lists() {
						l.asTheModel(t, string(other))
						l.asTheModel(t, string(other[:i+1]))
					}
				}
			}
		}
	}
}

// TestHighBytes: from 128 to 255 none is a letter, a great one or a small one.
func TestHighBytes(t *testing.T) {
	for _, c := range allBytes()[128:] {
		for _, s := range []string{c, c + c, "r" + c, c + "r", "ja" + c, "jan" + c, "o" + c, "ma" + c} {
			is(t, fmt.Sprintf("Head of %q", s), fmt.Sprint(keyword.Head(s)), "0")
			is(t, fmt.Sprintf("Month of %q", s), fmt.Sprint(keyword.Month(s)), "0")
			is(t, fmt.Sprintf("To of %q", s), to(s, asked), noYear)
		}
	}
}

func TestEveryShortTextAsAWord(t *testing.T) {
	for _, l := range lists() {
		everyText(2, allBytes(), func(s string) {
			if s == "" || s[0] < '0' || s[0] > '9' {
				l.asTheModel(t, s)
			}
		})
		everyText(4, split("jJuUnlaArRymMxio"), func(s string) { l.asTheModel(t, s) })
	}
}

func TestLongTexts(t *testing.T) {
	for _, s := range []string{strings.Repeat("r", 1<<20), strings.Repeat("january", 1<<17), "Rule" + strings.Repeat(" ", 1<<20), strings.Repeat("1", 1<<20), strings.Repeat("a/", 1<<19) + "a", strings.Repeat("/", 1<<20), strings.Repeat("only", 1<<18)} {
		is(t, "Head", fmt.Sprint(keyword.Head(s)), "0")
		is(t, "Month", fmt.Sprint(keyword.Month(s)), "0")
		is(t, "From", from(s), noYear)
		is(t, "To", to(s, 1), noYear)
		is(t, "Zone", fmt.Sprint(keyword.Zone(s)), "false")
		is(t, "Rule", fmt.Sprint(keyword.Rule(s)), "false")
	}
}

func TestShowMonth(t *testing.T) {
	for i, want := range strings.Fields("Jan Feb Mar Apr May Jun Jul Aug Sep Oct Nov Dec") {
		is(t, fmt.Sprint("ShowMonth of ", i+1), keyword.ShowMonth(i+1), want)
		is(t, "Month of "+want, fmt.Sprint(keyword.Month(want)), fmt.Sprint(i+1))
	}
}

// wild: numbers that are no month and no year, nor Endless; some would be, if their high bits were dropped.
var wild = []int{
	math.MinInt, math.MinInt + 1, math.MinInt + 2, math.MinInt + 2000, math.MinInt + 10000, math.MinInt32, math.MinInt32 + 1, -1 << 32, -1<<32 + 1, -1<<32 + 2000, -65536, -65535, -65536 + 2000, -10000, -9999, -2000, -256, -255, -13, -12, -2, -1, 0,
	10001, 10002, 11987, 65536, 65537, 65536 + 12, 65536 + 2000, 65536 + 10000, 1 << 32, 1<<32 + 1, 1<<32 + 12, 1<<32 + 2000, 1<<32 + 10000, math.MaxInt32, math.MaxInt32 + 1, math.MaxInt - 1, math.MaxInt,
}

func TestShowMonthOfNoMonth(t *testing.T) {
	for _, m := range append([]int{13, 14, 24, 99, 255, 256, 257, 268}, wild...) {
		is(t, fmt.Sprint("ShowMonth of ", m), fmt.Sprintf("%q", keyword.ShowMonth(m)), `""`)
	}
	for m := -2000; m <= 2000; m++ {
		if m < 1 || m > 12 {
			same(t, fmt.Sprint("ShowMonth of ", m), fmt.Sprintf("%q", keyword.ShowMonth(m)), `""`)
		}
	}
}

// P802: From, To, ShowTo.

func TestEveryYear(t *testing.T) {
	for y := -20000; y <= 20000; y++ {
		want := noYear
		if 1 <= y && y <= 9999 {
			want = year(y)
		}
		s := fmt.Sprint(y)
		same(t, "From of "+s, from(s), want)
		same(t, "To of "+s, to(s, 1), want)
	}
}

// noYears: texts that are no year.
func noYears() []string {
	return []string{
		"", "0", "10000", "10001", "99999", "123456", "-1", "-2", "-1999", "-9999", "-10000", "-0", "--1", "-",
		"+1", "+1999", "+", "01", "001", "00", "0001", "01999", "000000000001999", "-01",
		" ", " 1999", "1999 ", "1 999", "\t1999", "1999\n", "1999\r", "\v1999", "1999\x00", "\u00a01999",
		"1999.0", "1999.", "1,999", "1_999", "1e3", "0x7cf", "0b1", "0o7", "١٩٩٩", "１９９９", "²", "1999a", "a1999", "1999u", "1998-1999", "19 99", "\"1999\"", "'99", "/", ":", "1/", "1:", "/1", ":1",
		"9223372036854775807", "9223372036854775808", "18446744073709551615", "18446744073709551616", "18446744073709551617", "18446744073709553615", "-9223372036854775808", "-9223372036854775809", "-18446744073709549617", "4294967297", "4294969295", "65537", "67535", "99999999999999999999999999999999999", strings.Repeat("9", 1000), strings.Repeat("0", 1000) + "1",
		"NaN", "inf", "x", "year", "Rule", "Jan", "\xff", "1\xff", "\x80",
	}
}

func TestNoYears(t *testing.T) {
	for _, s := range append(noYears(), "only", "o", "max", "maximum", "ma", "min", "minimum", "m", "ONLY", "MAX") {
		is(t, fmt.Sprintf("From of %q", s), from(s), noYear)
	}
	for _, s := range noYears() {
		for _, first := range append([]int{1, 2, 1999, 9999, 10000}, wild...) {
			is(t, fmt.Sprintf("To of %q from %d", s, first), to(s, first), noYear)
		}
	}
}

func TestFrom(t *testing.T) {
	for _, y := range []int{1, 2, 9, 10, 99, 100, 999, 1000, 1916, 1981, 1999, 2000, 2024, 9998, 9999} {
		is(t, fmt.Sprint("From of ", y), from(fmt.Sprint(y)), year(y))
	}
}

// TestEveryShortTextAsAYear: the pattern is that of an Int from 1 to 9999.
func TestEveryShortTextAsAYear(t *testing.T) {
	pattern := regexp.MustCompile(`^[1-9][0-9]{0,3}$`)
	want := func(s string) string {
		if !pattern.MatchString(s) {
			return noYear
		}
		y, _ := strconv.Atoi(s)
		return year(y)
	}
	everyText(2, allBytes(), func(s string) {
		same(t, fmt.Sprintf("From of %q", s), from(s), want(s))
		same(t, fmt.Sprintf("From of 19 and %q", s), from("19"+s), want("19"+s))
		same(t, fmt.Sprintf("From of %q and 9", s), from(s+"9"), want(s+"9"))
	})
	everyText(6, split("019-+ "), func(s string) {
		same(t, fmt.Sprintf("From of %q", s), from(s), want(s))
	})
}

func TestToOfAWord(t *testing.T) {
	firsts := append([]int{1, 2, 1999, 9998, 9999, 10000}, wild...)
	for _, first := range firsts {
		for n := 1; n <= len("only"); n++ {
			everyCase("only"[:n], func(s string) {
				same(t, fmt.Sprintf("To of %q from %d", s, first), to(s, first), year(first))
			})
		}
		for n := len("ma"); n <= len("maximum"); n++ {
			everyCase("maximum"[:n], func(s string) {
				same(t, fmt.Sprintf("To of %q from %d", s, first), to(s, first), "10000 0")
			})
		}
		for n := 1; n <= len("minimum"); n++ {
			everyCase("minimum"[:n], func(s string) {
				same(t, fmt.Sprintf("To of %q from %d", s, first), to(s, first), noYear)
			})
		}
	}
}

func TestToOfNoWord(t *testing.T) {
	for _, s := range []string{"m", "M", "", "onlyx", "only ", " only", "onyl", "nly", "maximums", "max ", " max", "mx", "maxi mum", "aximum", "minimumm", "x", "-", "inf", "endless", "forever", "on1y", "m\u00e1x", "October", "Oct", "mar", "May", "max10000", "omax", "o\x00", "0nly"} {
		for _, first := range []int{1, 1999, 9999, 10000, 0, -1} {
			is(t, fmt.Sprintf("To of %q from %d", s, first), to(s, first), noYear)
		}
	}
}

func TestToOfAYear(t *testing.T) {
	for _, x := range []struct {
		s     string
		first int
		want  string
	}{
		{"1999", 1999, "1999 0"}, {"1998", 1999, noYear}, {"2000", 1999, "2000 0"}, {"1", 1999, noYear}, {"9999", 1999, "9999 0"}, {"10000", 1999, noYear}, {"10001", 1999, noYear},
		{"1", 1, "1 0"}, {"2", 1, "2 0"}, {"0", 1, noYear}, {"-1", 1, noYear}, {"1", 2, noYear}, {"10", 9, "10 0"}, {"9", 10, noYear}, {"100", 99, "100 0"}, {"99", 100, noYear},
		{"9999", 9999, "9999 0"}, {"9998", 9999, noYear}, {"10000", 9999, noYear}, {"9999", 9998, "9999 0"}, {"9999", 1, "9999 0"},
		// a from that is no year: a number is below it, or it is not
		{"9999", 10000, noYear}, {"10000", 10000, noYear}, {"1", 0, "1 0"}, {"0", 0, noYear}, {"-1", -1, noYear}, {"1999", -5, "1999 0"}, {"10000", 0, noYear},
		{"1", math.MinInt, "1 0"}, {"9999", math.MinInt, "9999 0"}, {"10000", math.MinInt, noYear}, {"1", math.MaxInt, noYear}, {"9999", math.MaxInt, noYear}, {"1999", 1<<32 + 1, noYear}, {"1999", -1 << 32, "1999 0"},
	} {
		is(t, fmt.Sprintf("To of %q from %d", x.s, x.first), to(x.s, x.first), x.want)
	}
}

func TestToBelowAndAboveFrom(t *testing.T) {
	for first := 1; first <= 9999; first++ {
		for d := -2; d <= 2; d++ {
			y, want := first+d, noYear
			if d >= 0 && y <= 9999 {
				want = year(y)
			}
			same(t, fmt.Sprintf("To of %d from %d", y, first), to(fmt.Sprint(y), first), want)
		}
	}
}

func TestShowTo(t *testing.T) {
	for _, x := range []struct {
		first, last int
		want        string
	}{
		{1981, 1981, `"only" 0`}, {1981, 1982, `"1982" 0`}, {1981, 1980, noText}, {1981, 9999, `"9999" 0`}, {1981, 10000, `"max" 0`}, {1981, 10001, noText}, {1981, 1, noText}, {1981, 0, noText}, {1981, -1, noText},
		{1, 1, `"only" 0`}, {1, 2, `"2" 0`}, {1, 0, noText}, {1, 9999, `"9999" 0`}, {1, 10000, `"max" 0`}, {1, 10001, noText}, {2, 1, noText}, {9, 10, `"10" 0`},
		{9998, 9999, `"9999" 0`}, {9999, 9999, `"only" 0`}, {9999, 9998, noText}, {9999, 10000, `"max" 0`}, {9999, 10001, noText},
		// a from that is no year
		{0, 0, noText}, {0, 1, noText}, {0, 1999, noText}, {0, 9999, noText}, {0, 10000, noText}, {-1, -1, noText}, {-1, 1999, noText}, {-1, 10000, noText},
		{10000, 10000, noText}, {10000, 9999, noText}, {10000, 10001, noText}, {10001, 10001, noText}, {10001, 10000, noText}, {-1999, 1999, noText}, {1999, -1999, noText}, {-1999, -1999, noText},
	} {
		is(t, fmt.Sprint("ShowTo of ", x.first, " and ", x.last), shown(x.first, x.last), x.want)
	}
}

func TestShowToOfWildNumbers(t *testing.T) {
	for _, n := range wild {
		for _, y := range append([]int{1, 12, 1999, 2000, 9999, 10000}, wild...) {
			is(t, fmt.Sprint("ShowTo of ", n, " and ", y), shown(n, y), noText)
			is(t, fmt.Sprint("ShowTo of ", y, " and ", n), shown(y, n), noText)
		}
	}
}

// TestEveryShowTo: of each year with those about it, and with the limits.
func TestEveryShowTo(t *testing.T) {
	want := func(first, last int) string {
		if first < 1 || first > 9999 {
			return noText
		}
		if last == 10000 {
			return `"max" 0`
		}
		if last == first {
			return `"only" 0`
		}
		if last < first || last > 9999 {
			return noText
		}
		return fmt.Sprintf(`"%d" 0`, last)
	}
	for first := -3; first <= 10003; first++ {
		for _, last := range []int{-1, 0, 1, 2, first - 2, first - 1, first, first + 1, first + 2, 9998, 9999, 10000, 10001} {
			same(t, fmt.Sprint("ShowTo of ", first, " and ", last), shown(first, last), want(first, last))
		}
	}
}

// P803: Zone, Rule.

// The patterns of the words, for names of any length.
var (
	zoneName = regexp.MustCompile(`^[A-Za-z0-9+_][A-Za-z0-9+_-]*(/[A-Za-z0-9+_][A-Za-z0-9+_-]*)*$`)
	ruleName = regexp.MustCompile(`^[A-Za-z_][A-Za-z0-9_-]*$`)
)

func namesAsThePatterns(t *testing.T, s string) {
	t.Helper()
	short := len(s) <= 30
	same(t, fmt.Sprintf("Zone of %q", s), fmt.Sprint(keyword.Zone(s)), fmt.Sprint(short && zoneName.MatchString(s)))
	same(t, fmt.Sprintf("Rule of %q", s), fmt.Sprint(keyword.Rule(s)), fmt.Sprint(short && ruleName.MatchString(s)))
}

func TestZone(t *testing.T) {
	for _, x := range []struct {
		s    string
		want bool
	}{
		{"Europe/Paris", true}, {"America/Argentina/Buenos_Aires", true}, {"America/Port-au-Prince", true}, {"Etc/GMT+5", true}, {"Etc/GMT-14", true}, {"Etc/GMT0", true}, {"EST5EDT", true}, {"UTC", true}, {"A", true}, {"a", true}, {"Z", true}, {"z", true}, {"Rule", true}, {"January", true}, {"only", true},
		{"", false}, {"/", false}, {"//", false}, {"///", false}, {"/a", false}, {"a/", false}, {"a//b", false}, {"a/b/", false}, {"/a/b", false}, {"a/b//c", false}, {"a//", false}, {"//a", false},
		{"a/b", true}, {"a/b/c", true}, {"a/b/c/d/e/f/g/h/i/j/k/l/m/n/o", true}, {"1/2", true}, {"+/_", true}, {"_/+/0", true},
		{"-", false}, {"-a", false}, {"--", false}, {"-/a", false}, {"a/-", false}, {"a/-b", false}, {"a/b/-c", false}, {"a/-/b", false}, {"-a/b", false}, {"-1", false},
		{"a-", true}, {"a--", true}, {"a-b", true}, {"a-/b", true}, {"a/b-", true}, {"a/b-c/d", true}, {"+-", true}, {"_-", true}, {"0-", true}, {"a-/b-/c-", true}, {"a-/-b", false},
		{"+", true}, {"+a", true}, {"a+", true}, {"_", true}, {"_a", true}, {"a_", true}, {"0", true}, {"9x", true}, {"123", true}, {"a/+b", true}, {"a/_b", true}, {"a/9", true},
		{" ", false}, {" a", false}, {"a ", false}, {"a b", false}, {"a/ b", false}, {"a.b", false}, {".", false}, {"..", false}, {"a/../b", false}, {"a/.", false}, {"a\\b", false}, {"a:b", false}, {"a\x00", false}, {"\x00", false}, {"a\n", false}, {"a/b\n", false}, {"\na", false}, {"\"a\"", false}, {"a#", false}, {"é", false}, {"a/é", false}, {"\xff", false}, {"a\u212a", false}, {"a\u2215b", false}, {"a,b", false}, {"~a", false}, {"a=b", false},
	} {
		is(t, fmt.Sprintf("Zone of %q", x.s), fmt.Sprint(keyword.Zone(x.s)), fmt.Sprint(x.want))
	}
}

func TestRule(t *testing.T) {
	for _, x := range []struct {
		s    string
		want bool
	}{
		{"EU", true}, {"US", true}, {"C-Eur", true}, {"W-Eur", true}, {"E-EurAsia", true}, {"SystemV", true}, {"Arg_2", true}, {"AN2", true}, {"a", true}, {"z", true}, {"A", true}, {"Z", true}, {"Rule", true}, {"only", true}, {"January", true},
		{"_", true}, {"__", true}, {"_a", true}, {"_1", true}, {"_-", true}, {"a_", true}, {"a-", true}, {"a--", true}, {"a-b", true}, {"a1", true}, {"a9", true}, {"a0-_", true},
		{"", false}, {"-", false}, {"-a", false}, {"--", false}, {"9x", false}, {"0", false}, {"1", false}, {"12", false}, {"0:20", false}, {"1:00", false},
		{"+", false}, {"+a", false}, {"a+", false}, {"a+b", false}, {"/", false}, {"/a", false}, {"a/", false}, {"a/b", false}, {"Europe/Paris", false},
		{" ", false}, {" a", false}, {"a ", false}, {"a b", false}, {"a.b", false}, {".", false}, {"a:", false}, {"a@", false}, {"a[", false}, {"a`", false}, {"a{", false}, {"@", false}, {"[", false}, {"`", false}, {"{", false}, {"^", false}, {"a^", false}, {"a\x00", false}, {"\x00", false}, {"a\n", false}, {"\na", false}, {"\"a\"", false}, {"a#", false}, {"é", false}, {"aé", false}, {"\xff", false}, {"a\xff", false}, {"\u212a", false}, {"a,b", false},
	} {
		is(t, fmt.Sprintf("Rule of %q", x.s), fmt.Sprint(keyword.Rule(x.s)), fmt.Sprint(x.want))
	}
}

// TestNamesOfEveryByte: alone, as the first one, behind another one, and about a /.
func TestNamesOfEveryByte(t *testing.T) {
	for _, c := range allBytes() {
		for _, s := range []string{c, c + "a", "a" + c, "a" + c + "b", c + c, "_" + c, "1" + c, "+" + c, "-" + c, "a/" + c, "a/b" + c, "a/" + c + "b", c + "/a", "a" + c + "/b", "a/b/" + c} {
			namesAsThePatterns(t, s)
		}
	}
}

func TestBytesOfNames(t *testing.T) {
	const letters = "ABCDEFGHIJKLMNOPQRSTUVWXYZabcdefghijklmnopqrstuvwxyz"
	const digits = "0123456789"
	for _, c := range allBytes() {
		for _, x := range []struct {
			what string
			got  bool
			in   string
		}{
			{"Zone", keyword.Zone(c), letters + digits + "+_"},
			{"Zone, behind another byte,", keyword.Zone("a" + c + "b"), letters + digits + "+_-/"},
			{"Zone, behind a /,", keyword.Zone("a/" + c), letters + digits + "+_"},
			{"Rule", keyword.Rule(c), letters + "_"},
			{"Rule, behind another byte,", keyword.Rule("a" + c), letters + digits + "_-"},
		} {
			is(t, fmt.Sprintf("%s of %q", x.what, c), fmt.Sprint(x.got), fmt.Sprint(strings.Contains(x.in, c)))
		}
	}
}

func TestNamesOfEveryLength(t *testing.T) {
	for n := range 300 {
		want := fmt.Sprint(1 <= n && n <= 30)
		for _, c := range split("aZ_") {
			is(t, fmt.Sprint("Zone of bytes: ", n), fmt.Sprint(keyword.Zone(strings.Repeat(c, n))), want)
			is(t, fmt.Sprint("Rule of bytes: ", n), fmt.Sprint(keyword.Rule(strings.Repeat(c, n))), want)
		}
		if n >= 3 {
			is(t, fmt.Sprint("Zone of two parts: ", n), fmt.Sprint(keyword.Zone("b/"+strings.Repeat("a", n-2))), want)
			is(t, fmt.Sprint("Zone of two parts, the last one short: ", n), fmt.Sprint(keyword.Zone(strings.Repeat("a", n-2)+"/b")), want)
			is(t, fmt.Sprint("Rule with a -: ", n), fmt.Sprint(keyword.Rule("b-"+strings.Repeat("a", n-2))), want)
		}
		if n%2 == 1 {
			is(t, fmt.Sprint("Zone of parts of one byte: ", n), fmt.Sprint(keyword.Zone(strings.Repeat("a/", n/2)+"a")), want)
		}
	}
}

// TestLongNamesOfEveryByte: at each place of names of MaxName bytes, and of one more.
func TestLongNamesOfEveryByte(t *testing.T) {
	for _, n := range []int{29, 30, 31} {
		for _, name := range []string{strings.Repeat("a", n), "a/" + strings.Repeat("b", n-4) + "/c"} {
			for i := range n {
				for _, c := range allBytes() {
					namesAsThePatterns(t, name[:i]+c+name[i+1:])
				}
			}
		}
	}
}

func TestEveryShortName(t *testing.T) {
	everyText(2, allBytes(), func(s string) { namesAsThePatterns(t, s) })
	everyText(5, split("aZ09/-+_ ."), func(s string) { namesAsThePatterns(t, s) })
	everyText(8, split("a/-"), func(s string) { namesAsThePatterns(t, s) })
}

func TestNamesByChance(t *testing.T) {
	chance := rand.New(rand.NewSource(8))
	letters := split("abcXYZ019++__--//")
	for range 200000 {
		var b strings.Builder
		for range chance.Intn(34) {
			b.WriteString(letters[chance.Intn(len(letters))])
		}
		namesAsThePatterns(t, b.String())
	}
}

// P804: laws.

// TestWhatIsLongerStandsForTheSame: what goes on behind what stands for a word stands for that one, or for none.
func TestWhatIsLongerStandsForTheSame(t *testing.T) {
	for _, l := range lists() {
		for _, w := range allWords() {
			for _, s := range cases(w) {
				first := 0
				for n := 1; n <= len(s); n++ {
					now := l.ask(s[:n])
					if first != 0 && now != 0 {
						is(t, fmt.Sprintf("%s of %q", l.name, s[:n]), fmt.Sprint(now), fmt.Sprint(first))
					}
					first = max(first, now)
				}
			}
		}
	}
}

// TestBeginsOfAWordStandForIt: from the least one on, up to the whole word, without a gap.
func TestBeginsOfAWordStandForIt(t *testing.T) {
	for _, l := range lists() {
		for _, w := range l.words {
			for _, s := range cases(w.whole) {
				for n := 1; n <= len(s); n++ {
					want := 0
					if n >= len(w.least) {
						want = w.n
					}
					is(t, fmt.Sprintf("%s of %q", l.name, s[:n]), fmt.Sprint(l.ask(s[:n])), fmt.Sprint(want))
				}
			}
		}
	}
}

func TestWholeWordsStandForThemselves(t *testing.T) {
	for _, l := range lists() {
		for _, w := range l.words {
			everyCase(w.whole, func(s string) {
				same(t, fmt.Sprintf("%s of %q", l.name, s), fmt.Sprint(l.ask(s)), fmt.Sprint(w.n))
			})
		}
	}
}

// TestWhatIsShownIsReadAgain: the texts of last years, and of months.
func TestWhatIsShownIsReadAgain(t *testing.T) {
	for first := 1; first <= 9999; first += 3 {
		for _, last := range []int{first, first + 1, first + 150, 9998, 9999, 10000} {
			s, k := keyword.ShowTo(first, last)
			if k == api.OK {
				same(t, fmt.Sprintf("To of %q from %d", s, first), to(s, first), year(last))
			}
		}
	}
	for m := 1; m <= 12; m++ {
		is(t, "Month of "+keyword.ShowMonth(m), fmt.Sprint(keyword.Month(keyword.ShowMonth(m))), fmt.Sprint(m))
	}
}
