package format_test

import (
	"fmt"
	"math/rand"
	"regexp"
	"strings"
	"testing"
	"time"

	"noonmark/api"
	"noonmark/format"
)

// The model: patterns of the words, and offsets as the library shows them.

var (
	abbreviation = regexp.MustCompile(`\A[A-Za-z0-9+-]{3,6}\z`)
	withLetter   = regexp.MustCompile(`(?s)\A(.*?)%s(.*)\z`)
	withOff      = regexp.MustCompile(`(?s)\A(.*?)%z(.*)\z`)
	withSides    = regexp.MustCompile(`(?s)\A([^/]*)/(.*)\z`)
)

// digits: the library's own sign would be wrong for less than a minute below 0.
func digits(off int) string {
	sign, size := "+", off
	if off < 0 {
		sign, size = "-", -off
	}
	s := sign + time.Unix(0, 0).In(time.FixedZone("", size)).Format("-070000")[1:]
	switch {
	case size%3600 == 0:
		return s[:3]
	case size%60 == 0:
		return s[:5]
	}
	return s
}

func made(f, letter string, off int, dst bool) string {
	if m := withLetter.FindStringSubmatch(f); m != nil {
		return m[1] + letter + m[2]
	}
	if m := withOff.FindStringSubmatch(f); m != nil {
		return m[1] + digits(off) + m[2]
	}
	if m := withSides.FindStringSubmatch(f); m != nil && dst {
		return m[2]
	} else if m != nil {
		return m[1]
	}
	return f
}

func modelAbbr(f, letter string, off int, dst bool) (string, api.Kind) {
	if off < -180000 || off > 180000 {
		return "", api.BadArg
	}
	if s := made(f, letter, off, dst); abbreviation.MatchString(s) {
		return s, api.OK
	}
	return "", api.BadFormat
}

// asTheModel: with dst and without it.
func asTheModel(t *testing.T, f, letter string, off int) {
	t.Helper()
	for _, dst := range []bool{false, true} {
		got, k := format.Abbr(f, letter, off, dst)
		want, wantK := modelAbbr(f, letter, off, dst)
		if got != want || k != wantK {
			t.Fatalf("Abbr of %q, %q, %d, %v: %s, not %s", f, letter, off, dst, toldAbbr(got, k), toldAbbr(want, wantK))
		}
	}
}

// each calls f with every text of at most so many parts.
func each(parts []string, most int, f func(s string)) {
	var more func(s string, left int)
	more = func(s string, left int) {
		f(s)
		for _, x := range parts {
			if left > 0 {
				more(s+x, left-1)
			}
		}
	}
	more("", most)
}

func TestPlainOfEveryShortText(t *testing.T) {
	each([]string{"A", "9", "-", "/"}, 8, func(s string) {
		if got := format.Plain(s); got != abbreviation.MatchString(s) {
			t.Fatalf("Plain of %q: %v", s, got)
		}
	})
}

func TestPlainOfEveryByteAtEveryPlace(t *testing.T) {
	for n := 1; n <= 8; n++ {
		for i := range n {
			for c := range 256 {
				b := []byte("aZ09+-bY"[:n])
				b[i] = byte(c)
				if got := format.Plain(string(b)); got != abbreviation.Match(b) {
					t.Fatalf("Plain of %q: %v", b, got)
				}
			}
		}
	}
}

func TestPlainOfEveryPairOfBytes(t *testing.T) {
	for c := range 1 << 16 {
		for _, b := range [][]byte{{byte(c >> 8), byte(c), 'A'}, {'A', byte(c >> 8), byte(c)}, {byte(c), 'A', byte(c >> 8)}} {
			if got := format.Plain(string(b)); got != abbreviation.Match(b) {
				t.Fatalf("Plain of %q: %v", b, got)
			}
		}
	}
}

func TestAbbrOfEveryShortFormat(t *testing.T) {
	each([]string{"A", "%", "s", "z", "/"}, 6, func(f string) {
		for _, letter := range []string{"", "S", "BCD", "/", "%z"} {
			asTheModel(t, f, letter, 3600)
		}
		asTheModel(t, f, "S", -19800)
		asTheModel(t, f, "S", 1)
	})
}

func TestAbbrOfEveryFewParts(t *testing.T) {
	each([]string{"%s", "%z", "/", "%", "A", "BCD", "-01", "\x80"}, 5, func(f string) {
		for _, letter := range []string{"", "S", "EFG", "%s"} {
			asTheModel(t, f, letter, 0)
		}
		asTheModel(t, f, "+-", -5400)
	})
}

func TestAbbrOfEveryOffset(t *testing.T) {
	told := map[api.Kind]int{}
	for off := -180100; off <= 180100; off++ {
		asTheModel(t, "%z", "", off)
		_, k := format.Abbr("%z", "", off, false)
		told[k]++
	}
	is(t, "the kinds of them", fmt.Sprint(told[api.OK], told[api.BadArg], told[api.BadFormat]), "6001 200 354000")
	for off := -180060; off <= 180060; off += 60 {
		for _, f := range []string{"A%z", "%zB", "AB%z", "A%zB", "ABC%z", "%z/ABC", "UTC"} {
			asTheModel(t, f, "S", off)
		}
	}
}

func TestAbbrByChance(t *testing.T) {
	r := rand.New(rand.NewSource(16))
	parts := []string{"%s", "%z", "/", "%", "%%", "A", "b", "0", "+", "-", "s", "z", " ", "\n", "\x00", "\xff", "é", "ABC", "DEF"}
	anyText := func(most int) string {
		var s strings.Builder
		for range r.Intn(most + 1) {
			s.WriteString(parts[r.Intn(len(parts))])
		}
		return s.String()
	}
	for range 300000 {
		off := r.Intn(400000) - 200000
		if r.Intn(2) == 0 {
			off -= off % 60
		}
		asTheModel(t, anyText(5), anyText(2), off)
	}
}

func TestAbbrOfEveryByteAtEveryPlace(t *testing.T) {
	for _, f := range []string{"ABCD", "C%sT", "AB%z", "%zAB", "ABC/DEF", "%s/ABC"} {
		for i := range len(f) {
			for c := range 256 {
				b := []byte(f)
				b[i] = byte(c)
				asTheModel(t, string(b), "D", 3600)
			}
		}
	}
	for c := range 256 {
		letter := string([]byte{byte(c)})
		asTheModel(t, "C%sT", letter, 3600)
		asTheModel(t, "%s", "A"+letter+"B", 3600)
	}
}

func TestLongTexts(t *testing.T) {
	for _, n := range []int{20, 21, 200, 1 << 16} {
		long := strings.Repeat("A", n)
		for _, f := range []string{long, long + "%s", "%s" + long, long + "%z", "ABC/" + long, long + "/ABC", strings.Repeat("%s", n), strings.Repeat("%z", n), strings.Repeat("/", n), strings.Repeat("%", n), "ABC" + strings.Repeat("/", n)} {
			asTheModel(t, f, "S", 3600)
			asTheModel(t, f, long, 3600)
			asTheModel(t, f, "", 3600)
		}
		asTheModel(t, "A%s", long, 0)
	}
}
