package wire_test

import (
	"bytes"
	"fmt"
	"strconv"
	"strings"
	"testing"

	"noonmark/api"
	"noonmark/wire"
)

// told: items and what is left, as a text.
func told(items []wire.Item, rest []byte) string {
	var s strings.Builder
	for _, x := range items {
		if x.Bad && len(x.B) == 0 {
			s.WriteString("bad,")
		} else if x.Bad {
			s.WriteString("bad with bytes,")
		} else {
			s.WriteString(strconv.Quote(string(x.B)) + ",")
		}
	}
	return s.String() + "rest " + strconv.Quote(string(rest))
}

func split(s string) string { return told(wire.Split([]byte(s))) }

func is(t *testing.T, what, got, want string) {
	t.Helper()
	if got != want {
		t.Errorf("%s: %s, not %s", short(what), short(got), short(want))
	}
}

func short(s string) string {
	if len(s) > 200 {
		return s[:90] + " .. " + s[len(s)-90:]
	}
	return s
}

// begins: could b be the begin of a frame, or a whole one?
func begins(b []byte) (can, whole bool) {
	head, body, colon := bytes.Cut(b, []byte(":"))
	if len(head) > 5 || len(head) > 1 && head[0] == '0' {
		return false, false
	}
	n := 0
	for _, c := range head {
		if c < '0' || c > '9' {
			return false, false
		}
		n = n*10 + int(c-'0')
	}
	if !colon {
		return true, false
	}
	if len(head) == 0 || n > api.MaxFrame || len(body) > n+1 {
		return false, false
	}
	if len(body) <= n {
		return true, false
	}
	return body[n] == '\n', body[n] == '\n'
}

// model: a stream's items and what is left, by trying each begin of what comes.
func model(b []byte) (items []wire.Item, rest []byte) {
	end := 1
	for end <= len(b) {
		can, whole := begins(b[:end])
		if can && !whole {
			end++
			continue
		}
		if whole {
			_, body, _ := bytes.Cut(b[:end-1], []byte(":"))
			items = append(items, wire.Item{B: body})
			b = b[end:]
		} else {
			items = append(items, wire.Item{Bad: true})
			_, b, _ = bytes.Cut(b[end-1:], []byte("\n"))
		}
		end = 1
	}
	return items, b
}

// everyText calls f with every text of at most n of these bytes.
func everyText(n int, letters string, f func(b []byte)) {
	var longer func(b []byte)
	longer = func(b []byte) {
		f(b)
		if len(b) == n {
			return
		}
		for i := range len(letters) {
			longer(append(b[:len(b):len(b)], letters[i]))
		}
	}
	longer(nil)
}

// mixed: a stream of all sorts.
const mixed = "5:hello\nx\n0:\n05:a\n3:ab\nc\n\n\n:\n12:0:\n1:a\nb:c:d\n-1:\n3:a\n\n\n123456:x\n20001:x\n1:ab\n1:a\n7\n2:1:\n10:0123456789\n4:\x00\xff\x80\n\n2:x"

// P101: Frame.

func TestFrameIsLengthColonBytesLineFeed(t *testing.T) {
	for _, n := range []int{0, 1, 2, 5, 9, 10, 11, 99, 100, 101, 999, 1000, 9999, 10000, 10001, 19999, 20000} {
		b := bytes.Repeat([]byte("a:\n0\xff"), n/5+1)[:n]
		f, k := wire.Frame(b)
		is(t, "Frame of "+strconv.Itoa(n)+" bytes", fmt.Sprintf("%d %q", int(k), f), fmt.Sprintf("0 %q", strconv.Itoa(n)+":"+string(b)+"\n"))
	}
	f, k := wire.Frame(nil)
	is(t, "Frame of nil", fmt.Sprintf("%d %q", int(k), f), `0 "0:\n"`)
}

func TestFrameTooLarge(t *testing.T) {
	for _, n := range []int{api.MaxFrame + 1, api.MaxFrame + 2, 99999, 100000, 1 << 20} {
		f, k := wire.Frame(make([]byte, n))
		if k != api.TooLarge || len(f) != 0 {
			t.Errorf("Frame of %d bytes: kind %d, %d bytes", n, int(k), len(f))
		}
	}
}

func TestFrameLeavesWhatIsHandedIn(t *testing.T) {
	room := []byte("hello, spare room")
	f, _ := wire.Frame(room[:5])
	again, _ := wire.Frame(room[:5])
	scribble(f)
	is(t, "what was handed in", string(room), "hello, spare room")
	is(t, "another answer", string(again), "5:hello\n")
}

// P102: Split.

func TestSplitSeesFramesAndBadPlaces(t *testing.T) {
	for _, x := range []struct{ stream, want string }{
		{"", `rest ""`},
		{"5:hello\n", `"hello",rest ""`},
		{"x\n0:\n", `bad,"",rest ""`},
		{"0:\n0:\n", `"","",rest ""`},
		{"3:a\nb\n1:\n\n", `"a\nb","\n",rest ""`},
		{"6:1:a\n:\n\n1:b\n", `"1:a\n:\n","b",rest ""`},
		{"2:\x00\xff\n", `"\x00\xff",rest ""`},
		// a byte that is no digit where one must be
		{"\n1:a\n", `bad,"a",rest ""`},
		{"\n\n1:a\n", `bad,bad,"a",rest ""`},
		{":\n1:a\n", `bad,"a",rest ""`},
		{" 1:a\n1:b\n", `bad,"b",rest ""`},
		{"-1:a\n1:b\n", `bad,"b",rest ""`},
		{"+1:a\n1:b\n", `bad,"b",rest ""`},
		{"/\n;\n\xb1:a\n1:b\n", `bad,bad,bad,"b",rest ""`},
		// a sixth digit
		{"123456:a\n1:b\n", `bad,"b",rest ""`},
		{"1000001:a\n1:b\n", `bad,"b",rest ""`},
		{"123456", `bad,rest ""`},
		// a digit behind a 0
		{"01:a\n1:b\n", `bad,"b",rest ""`},
		{"00:\n1:b\n", `bad,"b",rest ""`},
		{"00", `bad,rest ""`},
		// another byte than : behind digits
		{"1\n1:b\n", `bad,"b",rest ""`},
		{"12345\n1:b\n", `bad,"b",rest ""`},
		{"0\n1:b\n", `bad,"b",rest ""`},
		{"0x\n1:b\n", `bad,"b",rest ""`},
		{"1;a\n1:b\n", `bad,"b",rest ""`},
		{"1/a\n1:b\n", `bad,"b",rest ""`},
		// another byte than a line feed behind the bytes
		{"1:ab\n1:c\n", `bad,"c",rest ""`},
		{"0:a\n1:c\n", `bad,"c",rest ""`},
		{"2:\n\n1:a\n1:c\n", `bad,"c",rest ""`},
		{"0:1:a\n1:c\n", `bad,"c",rest ""`},
		{"1:a\r\n1:c\n", `bad,"c",rest ""`},
		// what is left out has no frame in it
		{"x1:a\n1:c\n", `bad,"c",rest ""`},
		{"x:y:z", `bad,rest ""`},
	} {
		is(t, "Split of "+strconv.Quote(x.stream), split(x.stream), x.want)
	}
}

func TestSplitLeavesWhatIsNotWhole(t *testing.T) {
	for _, x := range []struct{ stream, want string }{
		{"0", `rest "0"`},
		{"0:", `rest "0:"`},
		{"1", `rest "1"`},
		{"12345", `rest "12345"`},
		{"20001", `rest "20001"`},
		{"99999", `rest "99999"`},
		{"20000:", `rest "20000:"`},
		{"2:a", `rest "2:a"`},
		{"2:a\n", `rest "2:a\n"`},
		{"2:ab", `rest "2:ab"`},
		{"1:a\n2:x", `"a",rest "2:x"`},
		{"x\n2:x", `bad,rest "2:x"`},
		{"x", `bad,rest ""`},
		{"1:a\n1:bc", `"a",bad,rest ""`},
	} {
		is(t, "Split of "+strconv.Quote(x.stream), split(x.stream), x.want)
	}
}

func TestSplitAtTheLargestLength(t *testing.T) {
	for _, n := range []int{9999, 10000, 19999, api.MaxFrame} {
		body := strings.Repeat("a\n", n/2+1)[:n]
		whole := strconv.Itoa(n) + ":" + body + "\n"
		is(t, strconv.Itoa(n)+" bytes", split(whole+"1:b\n"), strconv.Quote(body)+`,"b",rest ""`)
		is(t, strconv.Itoa(n)+" bytes, cut", split(whole[:len(whole)-1]), "rest "+strconv.Quote(whole[:len(whole)-1]))
		is(t, strconv.Itoa(n)+" bytes, and one", split(strings.TrimSuffix(whole, "\n")+"b\n1:b\n"), `bad,"b",rest ""`)
	}
	for _, n := range []string{"20001", "20010", "21000", "30000", "65536", "99999"} {
		is(t, n, split(n), "rest "+strconv.Quote(n))
		is(t, n+":", split(n+":"), `bad,rest ""`)
		is(t, n+":a", split(n+":a\n1:b\n"), `bad,"b",rest ""`)
		is(t, n+", a line feed", split(n+"\n1:b\n"), `bad,"b",rest ""`)
	}
}

func TestSplitAsTheWordsSay(t *testing.T) {
	everyText(7, "012:\n", func(b []byte) {
		is(t, strconv.Quote(string(b)), told(wire.Split(b)), told(model(b)))
	})
	everyText(2, allBytes(), func(b []byte) {
		is(t, strconv.Quote(string(b)), told(wire.Split(b)), told(model(b)))
	})
	is(t, "the mixed stream", split(mixed), told(model([]byte(mixed))))
}

func allBytes() string {
	var b []byte
	for i := range 256 {
		b = append(b, byte(i))
	}
	return string(b)
}

func TestSplitLeavesWhatIsHandedIn(t *testing.T) {
	room := []byte("1:a\nx\n2:bc\n3:d and spare room")
	b := room[:15]
	items, rest := wire.Split(b)
	want := `"a",bad,"bc",rest "3:d "`
	is(t, "Split", told(items, rest), want)
	again, left := wire.Split(b)
	for _, x := range again {
		scribble(x.B)
	}
	scribble(left)
	is(t, "what was handed in", string(room), "1:a\nx\n2:bc\n3:d and spare room")
	is(t, "the first answer", told(items, rest), want)
	for i := range room {
		room[i] = '#'
	}
	is(t, "the first answer", told(items, rest), want)
}

// scribble writes into a list, its spare room too.
func scribble(b []byte) {
	b = b[:cap(b)]
	for i := range b {
		b[i] = '#'
	}
}

func TestListsOfOneAnswerShareNothing(t *testing.T) {
	const stream = "3:abc\n0:\n1:d\nx\n5:efghi\n0:\n2:jk\n4:lm"
	want := split(stream)
	n := len(strings.Split(want, ",")) - 1
	for i := range n + 1 {
		items, rest := wire.Split([]byte(stream))
		if i == n {
			scribble(rest)
			rest = []byte("4:lm")
		} else {
			was := bytes.Clone(items[i].B)
			scribble(items[i].B)
			items[i].B = was
		}
		is(t, "written into list "+strconv.Itoa(i), told(items, rest), want)
	}
}

// P103: New, Feed, Rest.

func TestFeedTellsAtEachByteWhatSplitTells(t *testing.T) {
	s := wire.New()
	is(t, "new", told(s.Feed(nil), s.Rest()), `rest ""`)
	var items []wire.Item
	for i := range len(mixed) {
		items = append(items, s.Feed([]byte{mixed[i]})...)
		is(t, "behind byte "+strconv.Itoa(i), told(items, s.Rest()), told(model([]byte(mixed[:i+1]))))
	}
}

func TestFeedTellsEachItemOnce(t *testing.T) {
	s := wire.New()
	for _, x := range []struct{ piece, want string }{
		{"5:he", `rest "5:he"`},
		{"", `rest "5:he"`},
		{"llo", `rest "5:hello"`},
		{"\n1", `"hello",rest "1"`},
		{":a\n0:\n2", `"a","",rest "2"`},
		{"x", `bad,rest ""`},
		{"1:a", `rest ""`},
		{"\n", `rest ""`},
		{"\n", `bad,rest ""`},
		{"2000", `rest "2000"`},
		{"1", `rest "20001"`},
		{":", `bad,rest ""`},
		{"\n1:\n\n", `"\n",rest ""`},
		{"", `rest ""`},
	} {
		is(t, "Feed of "+strconv.Quote(x.piece), told(s.Feed([]byte(x.piece)), s.Rest()), x.want)
	}
}

func TestFeedOfLargeFramesInPieces(t *testing.T) {
	body := strings.Repeat("9:\n", api.MaxFrame)[:api.MaxFrame]
	stream := "20000:" + body + "\n20000:" + body + "\n1:a\n20000:" + body
	for _, size := range []int{1, 2, 7, 1000, 19999, 20007, 20008, 70000} {
		is(t, strconv.Itoa(size), told(feed(stream, size)), strconv.Quote(body)+","+strconv.Quote(body)+`,"a",rest `+strconv.Quote("20000:"+body))
	}
}

// feed: a stream in pieces of that size.
func feed(stream string, size int) (items []wire.Item, rest []byte) {
	s := wire.New()
	for len(stream) > size {
		items = append(items, s.Feed([]byte(stream[:size]))...)
		stream = stream[size:]
	}
	return append(items, s.Feed([]byte(stream))...), s.Rest()
}

func TestSplitterOfNil(t *testing.T) {
	var s *wire.Splitter
	is(t, "nil", told(s.Feed([]byte("1:a\nx\n2:b")), s.Rest()), `rest ""`)
	is(t, "nil", told(s.Feed(nil), s.Rest()), `rest ""`)
}

func TestSplittersShareNothing(t *testing.T) {
	a, b := wire.New(), wire.New()
	is(t, "a", told(a.Feed([]byte("3:a")), a.Rest()), `rest "3:a"`)
	is(t, "b", told(b.Feed([]byte("2:x")), b.Rest()), `rest "2:x"`)
	is(t, "a", told(a.Feed([]byte("bc\nx")), a.Rest()), `"abc",bad,rest ""`)
	is(t, "b", told(b.Feed([]byte("y\n1:z\n")), b.Rest()), `"xy","z",rest ""`)
	is(t, "a", told(a.Feed([]byte("1:a\n0:\n")), a.Rest()), `"",rest ""`)
}

func TestFeedKeepsNothingOfThePiece(t *testing.T) {
	s := wire.New()
	room := []byte("1:a\n3:bc, spare")
	items := s.Feed(room[:8])
	is(t, "what was handed in", string(room), "1:a\n3:bc, spare")
	scribble(room)
	is(t, "Feed", told(items, s.Rest()), `"a",rest "3:bc"`)
	is(t, "Feed", told(s.Feed([]byte("d\n")), s.Rest()), `"bcd",rest ""`)
}

func TestSplitterSeesNothingOfWhatIsWritten(t *testing.T) {
	s := wire.New()
	items := s.Feed([]byte("1:a\n12:bc"))
	is(t, "Rest", told(items, s.Rest()), `"a",rest "12:bc"`)
	rest := s.Rest()
	scribble(s.Rest())
	scribble(items[0].B)
	is(t, "Rest", told(nil, s.Rest()), `rest "12:bc"`)
	more := s.Feed([]byte("defghijklm\n2:no"))
	is(t, "Feed", told(more, s.Rest()), `"bcdefghijklm",rest "2:no"`)
	scribble(more[0].B)
	is(t, "Feed", told(s.Feed([]byte("\n")), s.Rest()), `"no",rest ""`)
	is(t, "an earlier Rest", string(rest), "12:bc")
}

func TestAnAnswerStaysAsItWas(t *testing.T) {
	s := wire.New()
	first := s.Feed([]byte("1:a\nx\n3:bcd\n4:ef"))
	left := s.Rest()
	second := s.Feed([]byte("gh\n0:\n1:i\ny"))
	is(t, "the second answer", told(second, s.Rest()), `"efgh","","i",bad,rest ""`)
	is(t, "the first answer", told(first, left), `"a",bad,"bcd",rest "4:ef"`)
	room := first[:cap(first)]
	for i := range room {
		room[i] = wire.Item{Bad: true, B: []byte("#")}
	}
	third := s.Feed([]byte("\n2:jk\n3:lmn\n"))
	is(t, "the second answer", told(second, nil), `"efgh","","i",bad,rest ""`)
	is(t, "the third answer", told(third, s.Rest()), `"jk","lmn",rest ""`)
}

// P104: laws.

func TestItemsAreTheSameHoweverCut(t *testing.T) {
	want := split(mixed)
	for size := 1; size <= len(mixed); size++ {
		is(t, "pieces of "+strconv.Itoa(size), told(feed(mixed, size)), want)
	}
	for i := range len(mixed) + 1 {
		for j := i; j <= len(mixed); j++ {
			s := wire.New()
			items := s.Feed([]byte(mixed[:i]))
			items = append(items, s.Feed([]byte(mixed[i:j]))...)
			items = append(items, s.Feed([]byte(mixed[j:]))...)
			is(t, fmt.Sprint("cut at ", i, ", ", j), told(items, s.Rest()), want)
		}
	}
}

func TestEveryShortStreamCutAnywhere(t *testing.T) {
	everyText(6, "012:\n", func(b []byte) {
		want := told(wire.Split(b))
		for i := range len(b) + 1 {
			s := wire.New()
			items := s.Feed(b[:i])
			items = append(items, s.Feed(b[i:])...)
			is(t, fmt.Sprintf("%q cut at %d", b, i), told(items, s.Rest()), want)
		}
	})
}

func TestWhatWasFramedIsSplitAsItWas(t *testing.T) {
	var stream []byte
	var want []wire.Item
	all := []byte(strings.Repeat(allBytes(), 80))
	for _, n := range []int{0, 1, 2, 9, 10, 11, 99, 100, 256, 999, 1000, 9999, 10000, 19999, 20000, 0, 10} {
		f, k := wire.Frame(all[len(all)-n:])
		if k != api.OK {
			t.Errorf("Frame of %d bytes: kind %d", n, int(k))
		}
		stream = append(stream, f...)
		want = append(want, wire.Item{B: all[len(all)-n:]})
	}
	is(t, "all frames", told(wire.Split(stream)), told(want, nil))
	is(t, "all frames, byte by byte", told(feed(string(stream), 1)), told(want, nil))
	everyText(3, "0:\n", func(b []byte) {
		f, _ := wire.Frame(b)
		is(t, strconv.Quote(string(b)), told(wire.Split(f)), told([]wire.Item{{B: b}}, nil))
	})
}
