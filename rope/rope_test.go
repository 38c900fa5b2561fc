package rope_test

import (
	"fmt"
	"math"
	"math/rand"
	"strconv"
	"strings"
	"testing"
	"unsafe"

	"noonmark/api"
	"noonmark/rope"
)

func is(t *testing.T, what, got, want string) {
	t.Helper()
	if got != want {
		t.Errorf("%s: %s, not %s", short(what), short(got), short(want))
	}
}

func short(s string) string {
	if len(s) > 300 {
		return s[:140] + " .. " + s[len(s)-140:]
	}
	return s
}

// told: what a call answered, as a text.
func told(x ...any) string { return fmt.Sprintf("%q", fmt.Sprint(x...)) }

func made(t *testing.T, s string) *rope.Rope {
	t.Helper()
	r, k := rope.Make(s)
	if k != api.OK || r == nil {
		t.Fatalf("Make of %d bytes: kind %d", len(s), int(k))
	}
	return r
}

func spliced(t *testing.T, r *rope.Rope, from, to int, s string) *rope.Rope {
	t.Helper()
	n, k := r.Splice(from, to, s)
	if k != api.OK || n == nil {
		t.Fatalf("Splice of %d bytes from %d to %d into %d: kind %d", len(s), from, to, r.Len(), int(k))
	}
	return n
}

// wild: numbers that are no place in any document.
var wild = []int{math.MinInt, math.MinInt + 1, math.MinInt32, -20001, -2, -1, api.MaxDoc + 1, math.MaxInt32, math.MaxInt - 1, math.MaxInt}

// edges: numbers about 0 and n, and wild ones.
func edges(n int) []int {
	return append([]int{0, 1, 2, n / 2, n - 2, n - 1, n, n + 1, n + 2}, wild...)
}

// texts: of all sorts, short ones and such as many nodes hold.
func texts() []string {
	l := []string{"", "a", "\n", "\n\n", "\n\n\n", "a\n", "\na", "ab\ncd", "ab\ncd\n", "\nab\n\ncd\n", "a\r\nb\rc", "\x00\xff\n\x80é\n", " \t \n"}
	for _, n := range []int{63, 64, 65, 127, 128, 129, 255, 256, 257, 258, 511, 513, 1000} {
		l = append(l, long(n), strings.Repeat("\n", n), strings.Repeat("x", n), strings.Repeat("x", n-1)+"\n", "\n"+strings.Repeat("x", n-1))
	}
	return l
}

// long: n bytes in lines of many lengths, no two stretches of which are alike.
func long(n int) string {
	var b strings.Builder
	for i := 0; b.Len() < n; i++ {
		b.WriteString(strconv.Itoa(i))
		b.WriteString(strings.Repeat("-", i*i%37))
		b.WriteString(strings.Repeat("\n", 1+i*i%5/4))
	}
	return b.String()[:n]
}

// model: what each call must answer, from the text alone.
type model string

func (m model) slice(from, to int) (string, api.Kind) {
	if from < 0 || from > to || to > len(m) {
		return "", api.Range
	}
	return string(m[from:to]), api.OK
}

func (m model) splice(from, to int, s string) (string, api.Kind) {
	if from < 0 || from > to || to > len(m) {
		return "", api.Range
	}
	if n := string(m[:from]) + s + string(m[to:]); len(n) <= api.MaxDoc {
		return n, api.OK
	}
	return "", api.TooLarge
}

func (m model) lines() []string { return strings.Split(string(m), "\n") }

func (m model) line(i int) (string, api.Kind) {
	if l := m.lines(); i >= 0 && i < len(l) {
		return l[i], api.OK
	}
	return "", api.Range
}

func (m model) offset(line, col int) (int, api.Kind) {
	l := m.lines()
	if line < 0 || line >= len(l) || col < 0 || col > len(l[line]) {
		return 0, api.Range
	}
	return len(strings.Join(l[:line], "\n")) + min(line, 1) + col, api.OK
}

func (m model) place(at int) (int, int, api.Kind) {
	if at < 0 || at > len(m) {
		return 0, 0, api.Range
	}
	ahead := string(m[:at])
	return strings.Count(ahead, "\n"), at - strings.LastIndex(ahead, "\n") - 1, api.OK
}

// same: r is a rope of s, as far as calls without a place tell, and each line.
func same(t *testing.T, what string, r *rope.Rope, s string) {
	t.Helper()
	m := model(s)
	is(t, what+": Text", r.Text(), s)
	is(t, what+": Len, Lines", told(r.Len(), r.Lines()), told(len(s), len(m.lines())))
	for i, want := range m.lines() {
		line, k := r.Line(i)
		is(t, what+": Line "+strconv.Itoa(i), told(line, int(k)), told(want, 0))
	}
	heightIsRight(t, what, r)
}

func heightIsRight(t *testing.T, what string, r *rope.Rope) {
	t.Helper()
	h := r.Height()
	if h < 0 || h > 30 || (h == 0) != (r.Len() == 0) {
		t.Errorf("%s: height %d of %d bytes", what, h, r.Len())
	}
}

// P301: Make, Len, Lines, Text.

func TestMake(t *testing.T) {
	for _, s := range texts() {
		same(t, "Make of "+strconv.Quote(s), made(t, s), s)
	}
	for _, n := range []int{4999, 9999, 10000, 19998, 19999, api.MaxDoc} {
		for _, s := range []string{long(n), strings.Repeat("\n", n), strings.Repeat("\xff", n)} {
			r := made(t, s)
			is(t, "Make of "+strconv.Itoa(n)+" bytes", told(r.Len(), r.Lines(), r.Text() == s), told(n, strings.Count(s, "\n")+1, true))
		}
	}
}

func TestMakeTooLarge(t *testing.T) {
	for _, n := range []int{api.MaxDoc + 1, api.MaxDoc + 2, 2 * api.MaxDoc, 1 << 20} {
		r, k := rope.Make(strings.Repeat("\n", n))
		is(t, "Make of "+strconv.Itoa(n)+" bytes", told(r == nil, int(k)), told(true, 17))
	}
}

func TestLines(t *testing.T) {
	for _, x := range []struct {
		s    string
		want int
	}{{"", 1}, {"a", 1}, {"\n", 2}, {"a\n", 2}, {"\na", 2}, {"a\nb", 2}, {"\n\n", 3}, {"a\n\nb\n", 4}, {"a\r\nb\r", 2}, {strings.Repeat("\n", api.MaxDoc), 20001}} {
		is(t, "Lines of "+strconv.Quote(x.s), told(made(t, x.s).Lines()), told(x.want))
	}
}

// P302: Slice, Splice.

func TestSliceAnywhere(t *testing.T) {
	for _, s := range texts() {
		if len(s) > 300 {
			continue
		}
		r := made(t, s)
		for from := -1; from <= len(s)+1; from++ {
			for to := -1; to <= len(s)+1; to++ {
				got, k := r.Slice(from, to)
				want, wk := model(s).slice(from, to)
				if got != want || k != wk {
					t.Fatalf("Slice of %d bytes from %d to %d: %q %d, not %q %d", len(s), from, to, got, int(k), want, int(wk))
				}
			}
		}
	}
}

func TestSliceAtTheEdges(t *testing.T) {
	for _, s := range append(texts(), long(api.MaxDoc)) {
		r := made(t, s)
		for _, from := range edges(len(s)) {
			for _, to := range edges(len(s)) {
				got, k := r.Slice(from, to)
				want, wk := model(s).slice(from, to)
				is(t, fmt.Sprintf("Slice of %d bytes from %d to %d", len(s), from, to), told(got, int(k)), told(want, int(wk)))
			}
		}
	}
}

func TestSpliceAnywhere(t *testing.T) {
	for _, s := range []string{"", "a", "\n", "ab\ncd", long(128), long(129), long(257), long(400)} {
		r := made(t, s)
		for from := 0; from <= len(s); from++ {
			for to := from; to <= len(s); to++ {
				with := []string{"", "x", "\n", "ab\ncd\n"}[(from+to)%4]
				want, _ := model(s).splice(from, to, with)
				if got := spliced(t, r, from, to, with); got.Text() != want || got.Len() != len(want) || got.Lines() != strings.Count(want, "\n")+1 {
					t.Fatalf("Splice of %q into %d bytes from %d to %d: %q, not %q", with, len(s), from, to, got.Text(), want)
				}
			}
		}
		is(t, "the rope itself", r.Text(), s)
	}
}

func TestSpliceAtTheEdges(t *testing.T) {
	for _, s := range append(texts(), long(19000), long(api.MaxDoc)) {
		r := made(t, s)
		for _, from := range edges(len(s)) {
			for _, to := range edges(len(s)) {
				for _, with := range []string{"", "x", "\n", "a\nb", long(1000), strings.Repeat("\n", api.MaxDoc), strings.Repeat("y", api.MaxDoc+1)} {
					got, k := r.Splice(from, to, with)
					want, wk := model(s).splice(from, to, with)
					what := fmt.Sprintf("Splice of %d bytes into %d from %d to %d", len(with), len(s), from, to)
					is(t, what, told(got == nil, int(k)), told(wk != api.OK, int(wk)))
					if got != nil && (got.Text() != want || got.Len() != len(want)) {
						t.Errorf("%s: %s", what, short(strconv.Quote(got.Text())))
					}
				}
			}
		}
		is(t, "the rope itself", r.Text(), s)
	}
}

func TestSpliceUpToTheLimit(t *testing.T) {
	for _, x := range []struct{ size, from, to, with, want int }{
		{0, 0, 0, api.MaxDoc, 0}, {0, 0, 0, api.MaxDoc + 1, 17},
		{19999, 0, 0, 1, 0}, {19999, 0, 0, 2, 17}, {19999, 19999, 19999, 1, 0}, {19999, 19999, 19999, 2, 17}, {19999, 7000, 7000, 1, 0}, {19999, 7000, 7000, 2, 17},
		{api.MaxDoc, 5, 5, 0, 0}, {api.MaxDoc, 5, 5, 1, 17}, {api.MaxDoc, 0, 0, 1, 17}, {api.MaxDoc, api.MaxDoc, api.MaxDoc, 1, 17},
		{api.MaxDoc, 5, 6, 1, 0}, {api.MaxDoc, 5, 6, 2, 17}, {api.MaxDoc, 0, api.MaxDoc, api.MaxDoc, 0}, {api.MaxDoc, 0, api.MaxDoc, api.MaxDoc + 1, 17},
		{api.MaxDoc, 9000, 19000, 10000, 0}, {api.MaxDoc, 9000, 19000, 10001, 17}, {10000, 0, 10000, api.MaxDoc, 0}, {10000, 1, 10000, api.MaxDoc, 17}, {10000, 5000, 5000, 10000, 0}, {10000, 5000, 5000, 10001, 17},
		// Range is named ahead of TooLarge.
		{api.MaxDoc, 6, 5, 9, 2}, {api.MaxDoc, -1, 5, 9, 2}, {api.MaxDoc, 0, api.MaxDoc + 1, 9, 2}, {0, 1, 1, api.MaxDoc + 1, 2}, {0, 0, 1, api.MaxDoc + 1, 2},
	} {
		r := made(t, long(x.size))
		got, k := r.Splice(x.from, x.to, strings.Repeat("y", x.with))
		is(t, fmt.Sprint("Splice ", x), told(int(k), got == nil), told(x.want, x.want != 0))
		if k == api.OK {
			is(t, fmt.Sprint("Splice ", x, ": Len"), told(got.Len()), told(x.size-(x.to-x.from)+x.with))
		}
		is(t, fmt.Sprint("Splice ", x, ": the rope itself"), r.Text(), long(x.size))
	}
}

func TestSpliceOfNothingIsAnotherRope(t *testing.T) {
	for _, s := range []string{"", "a", long(1000)} {
		r := made(t, s)
		same(t, "nothing at the begin", spliced(t, r, 0, 0, ""), s)
		same(t, "nothing at the end", spliced(t, r, len(s), len(s), ""), s)
		same(t, "all for itself", spliced(t, r, 0, len(s), s), s)
		same(t, "nothing for all", spliced(t, r, 0, len(s), ""), "")
	}
}

// P303: Line, Offset, Place.

func TestLineAtTheEdges(t *testing.T) {
	for _, s := range append(texts(), long(api.MaxDoc), strings.Repeat("\n", api.MaxDoc)) {
		r := made(t, s)
		for _, i := range edges(r.Lines()) {
			got, k := r.Line(i)
			want, wk := model(s).line(i)
			is(t, fmt.Sprintf("Line %d of %q", i, s), told(got, int(k)), told(want, int(wk)))
		}
	}
}

func TestOffsetAnywhere(t *testing.T) {
	for _, s := range texts() {
		r := made(t, s)
		offsetsAreRight(t, r, s)
		for _, line := range append([]int{-1, r.Lines(), r.Lines() + 1}, wild...) {
			for _, col := range append([]int{0, 1}, wild...) {
				at, k := r.Offset(line, col)
				is(t, fmt.Sprintf("Offset of %d, %d in %q", line, col, s), told(at, int(k)), told(0, 2))
			}
		}
	}
}

// offsetsAreRight: at each line, at each column, and some that are none.
func offsetsAreRight(t *testing.T, r *rope.Rope, s string) {
	t.Helper()
	begin := 0
	for line, l := range model(s).lines() {
		for col := 0; col <= len(l); col++ {
			if at, k := r.Offset(line, col); at != begin+col || k != api.OK {
				t.Fatalf("Offset of %d, %d in %d bytes: %d %d, not %d", line, col, len(s), at, int(k), begin+col)
			}
		}
		for _, col := range append([]int{len(l) + 1, len(l) + 2}, wild...) {
			if at, k := r.Offset(line, col); at != 0 || k != api.Range {
				t.Fatalf("Offset of %d, %d in %d bytes: %d %d", line, col, len(s), at, int(k))
			}
		}
		begin += len(l) + 1
	}
}

func TestOffsetAtALinesEnd(t *testing.T) {
	for _, x := range []struct {
		s                  string
		line, col, want, k int
	}{
		{"ab\ncd", 0, 0, 0, 0}, {"ab\ncd", 0, 2, 2, 0}, {"ab\ncd", 0, 3, 0, 2}, {"ab\ncd", 1, 0, 3, 0}, {"ab\ncd", 1, 1, 4, 0}, {"ab\ncd", 1, 2, 5, 0}, {"ab\ncd", 1, 3, 0, 2}, {"ab\ncd", 2, 0, 0, 2},
		{"ab\n", 1, 0, 3, 0}, {"ab\n", 1, 1, 0, 2}, {"ab\n", 2, 0, 0, 2}, {"", 0, 0, 0, 0}, {"", 0, 1, 0, 2}, {"", 1, 0, 0, 2}, {"\n\n", 1, 0, 1, 0}, {"\n\n", 1, 1, 0, 2}, {"\n\n", 2, 0, 2, 0}, {"a\r\n", 0, 2, 2, 0}, {"a\r\n", 0, 3, 0, 2},
	} {
		at, k := made(t, x.s).Offset(x.line, x.col)
		is(t, fmt.Sprintf("Offset of %d, %d in %q", x.line, x.col, x.s), told(at, int(k)), told(x.want, x.k))
	}
}

func TestPlaceAnywhere(t *testing.T) {
	for _, s := range texts() {
		r := made(t, s)
		for at := 0; at <= len(s); at++ {
			placeIsRight(t, r, s, at)
		}
		for _, at := range edges(len(s)) {
			placeIsRight(t, r, s, at)
		}
	}
}

func placeIsRight(t *testing.T, r *rope.Rope, s string, at int) {
	t.Helper()
	line, col, k := r.Place(at)
	wl, wc, wk := model(s).place(at)
	if line != wl || col != wc || k != wk {
		t.Fatalf("Place of %d in %d bytes: %d %d %d, not %d %d %d", at, len(s), line, col, int(k), wl, wc, int(wk))
	}
}

func TestPlaceAtALineFeed(t *testing.T) {
	for _, x := range []struct {
		s                string
		at, line, col, k int
	}{
		{"ab\ncd", 0, 0, 0, 0}, {"ab\ncd", 2, 0, 2, 0}, {"ab\ncd", 3, 1, 0, 0}, {"ab\ncd", 5, 1, 2, 0}, {"ab\ncd", 6, 0, 0, 2}, {"ab\ncd", -1, 0, 0, 2},
		{"", 0, 0, 0, 0}, {"", 1, 0, 0, 2}, {"\n", 0, 0, 0, 0}, {"\n", 1, 1, 0, 0}, {"\n", 2, 0, 0, 2}, {"\n\na", 2, 2, 0, 0}, {"\n\na", 3, 2, 1, 0},
	} {
		line, col, k := made(t, x.s).Place(x.at)
		is(t, fmt.Sprintf("Place of %d in %q", x.at, x.s), told(line, col, int(k)), told(x.line, x.col, x.k))
	}
}

// A nil rope, and the zero value, are as one without a byte.

func TestRopesWithoutAByte(t *testing.T) {
	empty := made(t, "")
	full := made(t, long(1000))
	for what, r := range map[string]*rope.Rope{"nil": nil, "the zero value": {}, "made of nothing": empty, "all taken away": spliced(t, full, 0, 1000, "")} {
		is(t, what, told(r.Len(), r.Lines(), r.Text(), r.Height()), told(0, 1, "", 0))
		for _, i := range edges(0) {
			line, k := r.Line(i)
			want, wk := model("").line(i)
			is(t, what+": Line "+strconv.Itoa(i), told(line, int(k)), told(want, int(wk)))
			placeIsRight(t, r, "", i)
			for _, j := range edges(0) {
				s, k := r.Slice(i, j)
				want, wk := model("").slice(i, j)
				is(t, fmt.Sprintf("%s: Slice of %d, %d", what, i, j), told(s, int(k)), told(want, int(wk)))
				at, k := r.Offset(i, j)
				n, wk := model("").offset(i, j)
				is(t, fmt.Sprintf("%s: Offset of %d, %d", what, i, j), told(at, int(k)), told(n, int(wk)))
				got, k := r.Splice(i, j, "a\nb")
				want, wk = model("").splice(i, j, "a\nb")
				is(t, fmt.Sprintf("%s: Splice of %d, %d", what, i, j), told(got == nil, got.Text(), int(k)), told(wk != api.OK, want, int(wk)))
			}
		}
		got, k := r.Splice(0, 0, "")
		is(t, what+": Splice of nothing", told(got == nil, got.Len(), int(k)), told(false, 0, 0))
		_, k = r.Splice(0, 0, strings.Repeat("x", api.MaxDoc))
		is(t, what+": Splice of MaxDoc bytes", told(int(k)), told(0))
		got, k = r.Splice(0, 0, strings.Repeat("x", api.MaxDoc+1))
		is(t, what+": Splice of one more", told(got == nil, int(k)), told(true, 17))
	}
}

// P304: Height.

func TestHeightOfWhatIsMade(t *testing.T) {
	is(t, "of no byte", told(made(t, "").Height()), told(0))
	for n := 1; n <= api.MaxDoc; n += 1 + n/7 {
		heightIsRight(t, "Make of "+strconv.Itoa(n)+" bytes", made(t, long(n)))
	}
	heightIsRight(t, "Make of MaxDoc bytes", made(t, long(api.MaxDoc)))
}

// grown: a rope of n bytes, each put where at says.
func grown(t *testing.T, n int, at func(size int) int) *rope.Rope {
	t.Helper()
	r := made(t, "")
	for i := range n {
		p := at(i)
		r = spliced(t, r, p, p, string([]byte{"ab\ncd"[i%5]}))
		heightIsRight(t, "a byte more", r)
	}
	return r
}

// waysToGrow: at the begin, at the end, in the midst, and mixed.
func waysToGrow() map[string]func(size int) int {
	chance := rand.New(rand.NewSource(3))
	return map[string]func(size int) int{
		"begin":  func(int) int { return 0 },
		"end":    func(size int) int { return size },
		"midst":  func(size int) int { return size / 2 },
		"near":   func(size int) int { return max(0, size-3) },
		"third":  func(size int) int { return size / 3 },
		"both":   func(size int) int { return size % 2 * size },
		"chance": func(size int) int { return chance.Intn(size + 1) },
	}
}

func TestHeightBehindManyChanges(t *testing.T) {
	for what, at := range waysToGrow() {
		r := grown(t, api.MaxDoc, at)
		is(t, what+": Len", told(r.Len()), told(api.MaxDoc))
		for r.Len() > 0 {
			p := min(at(r.Len()-1), r.Len()-1)
			r = spliced(t, r, p, p+1, "")
			heightIsRight(t, what+", a byte less", r)
		}
		is(t, what+": Height of nothing", told(r.Height(), r.Text()), told(0, ""))
	}
}

func TestHeightBehindEverySecondByteTaken(t *testing.T) {
	r := made(t, long(api.MaxDoc))
	want := []byte{}
	for i, c := range []byte(long(api.MaxDoc)) {
		if i%2 == 0 {
			want = append(want, c)
		}
	}
	for p := 1; p < r.Len(); p++ {
		r = spliced(t, r, p, p+1, "")
		heightIsRight(t, "a byte less", r)
	}
	same(t, "every second byte", r, string(want))
}

func TestHeightBehindStretchesTakenAndPut(t *testing.T) {
	chance := rand.New(rand.NewSource(4))
	r, m := made(t, long(api.MaxDoc)), model(long(api.MaxDoc))
	for range 20000 {
		from := chance.Intn(len(m) + 1)
		to := from + chance.Intn(min(len(m)-from, 1000)+1)
		with := long(min(chance.Intn(1000), api.MaxDoc-len(m)+to-from))
		if chance.Intn(3) == 0 {
			with = ""
		}
		s, _ := m.splice(from, to, with)
		r, m = spliced(t, r, from, to, with), model(s)
		heightIsRight(t, "a stretch", r)
		if r.Len() != len(m) {
			t.Fatalf("Len %d, not %d", r.Len(), len(m))
		}
	}
	same(t, "many stretches", r, string(m))
}

// P305: laws.

func TestRopesAreAsTheyWere(t *testing.T) {
	chance := rand.New(rand.NewSource(5))
	ropes := []*rope.Rope{nil, made(t, ""), made(t, long(3000))}
	texts := []string{"", "", long(3000)}
	for range 1500 {
		i := chance.Intn(len(ropes))
		if chance.Intn(2) == 0 {
			i = len(ropes) - 1
		}
		from := chance.Intn(len(texts[i]) + 1)
		to := from + chance.Intn(min(len(texts[i])-from, 300)+1)
		with := long(chance.Intn(300))
		s, k := model(texts[i]).splice(from, to, with)
		if k != api.OK {
			continue
		}
		ropes = append(ropes, spliced(t, ropes[i], from, to, with))
		texts = append(texts, s)
	}
	for i, r := range ropes {
		same(t, "rope "+strconv.Itoa(i), r, texts[i])
	}
}

func TestOffsetAndPlaceAreEachOthers(t *testing.T) {
	ropes := []*rope.Rope{made(t, long(api.MaxDoc)), made(t, strings.Repeat("\n", 3000)), grown(t, 3000, waysToGrow()["chance"])}
	for _, s := range texts() {
		ropes = append(ropes, made(t, s))
	}
	for _, r := range ropes {
		for at := 0; at <= r.Len(); at++ {
			line, col, k := r.Place(at)
			back, j := r.Offset(line, col)
			if back != at || k != api.OK || j != api.OK {
				t.Fatalf("Offset of Place of %d in %d bytes: %d, kinds %d, %d", at, r.Len(), back, int(k), int(j))
			}
		}
		for line := range r.Lines() {
			l, _ := r.Line(line)
			for col := 0; col <= len(l); col++ {
				at, k := r.Offset(line, col)
				i, c, j := r.Place(at)
				if i != line || c != col || k != api.OK || j != api.OK {
					t.Fatalf("Place of Offset of %d, %d: %d, %d, kinds %d, %d", line, col, i, c, int(k), int(j))
				}
			}
		}
	}
}

func TestAllCallsBehindManyChanges(t *testing.T) {
	chance := rand.New(rand.NewSource(6))
	r, m := made(t, long(900)), model(long(900))
	for range 400 {
		from := chance.Intn(len(m) + 1)
		to := from + chance.Intn(min(len(m)-from, 40)+1)
		with := long(1000)[chance.Intn(960):][:chance.Intn(40)]
		s, _ := m.splice(from, to, with)
		r, m = spliced(t, r, from, to, with), model(s)
		same(t, "a change", r, string(m))
		offsetsAreRight(t, r, string(m))
		for at := -1; at <= len(m)+1; at++ {
			placeIsRight(t, r, string(m), at)
		}
		for range 50 {
			i, j := chance.Intn(len(m)+1), chance.Intn(len(m)+1)
			got, k := r.Slice(i, j)
			want, wk := m.slice(i, j)
			is(t, "Slice", told(got, int(k)), told(want, int(wk)))
		}
	}
}

// What is handed in is not kept, and what is handed out is new memory.

func TestNothingHandedInIsKept(t *testing.T) {
	for _, n := range []int{1, 5, 128, 129, 1000} {
		room := []byte(long(n))
		s := unsafe.String(&room[0], n)
		r := made(t, s)
		p := spliced(t, r, n/2, n, s)
		q := spliced(t, nil, 0, 0, s)
		want := long(n)[:n/2] + long(n)
		is(t, "what was handed in", s, long(n))
		for i := range room {
			room[i] = '#'
		}
		same(t, "Make", r, long(n))
		same(t, "Splice", p, want)
		same(t, "Splice into nil", q, long(n))
	}
}

func TestWhatIsHandedOutIsNewMemory(t *testing.T) {
	for _, n := range []int{1, 5, 128, 129, 1000} {
		r := made(t, long(n))
		whole, _ := r.Slice(0, n)
		begin, _ := r.Slice(0, 1)
		line, _ := r.Line(0)
		for _, s := range []string{r.Text(), whole, begin, line} {
			b := unsafe.Slice(unsafe.StringData(s), len(s))
			for i := range b {
				b[i] = '#'
			}
		}
		same(t, "written into the answers", r, long(n))
	}
}

func TestExamples(t *testing.T) {
	r := made(t, "ab\ncd")
	at, k := r.Offset(1, 1)
	is(t, "Offset of 1, 1", told(at, int(k)), told(4, 0))
	is(t, "Splice(1, 3, x)", spliced(t, r, 1, 3, "x").Text(), "axcd")
}
