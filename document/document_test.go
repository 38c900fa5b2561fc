package document_test

import (
	"fmt"
	"math"
	"math/rand"
	"reflect"
	"regexp"
	"slices"
	"strings"
	"testing"

	"noonmark/api"
	"noonmark/document"
	"noonmark/line"
)

func is(t *testing.T, what string, got, want any) {
	t.Helper()
	if fmt.Sprint(got) != fmt.Sprint(want) {
		t.Errorf("%.240s: %.400v, not %.400v", what, got, want)
	}
}

// plain: the document, a list of it without an element being nil.
func plain(d document.Doc) document.Doc {
	none := func(n int, drop func()) {
		if n == 0 {
			drop()
		}
	}
	none(len(d.Rules), func() { d.Rules = nil })
	none(len(d.Zones), func() { d.Zones = nil })
	none(len(d.Links), func() { d.Links = nil })
	none(len(d.Diags), func() { d.Diags = nil })
	return d
}

// same: it stops at the first fault, since it is for long loops, too.
func same(t *testing.T, what string, got, want document.Doc) {
	t.Helper()
	if !reflect.DeepEqual(plain(got), plain(want)) {
		t.Fatalf("%.240s: %+v, not %+v", what, got, want)
	}
}

// Lines are told by letters, as short as may be:
// r: a Rule; Z, z: a Zone with an until, and without one; E, e: a continuation with one, and without one; l: a Link;
// x: what is wrong; a dot: nothing; -, +: a Kind below and above all others.
const letters = "rZzEelx.-+"

func kindOf(c rune) int {
	return map[rune]int{'r': 1, 'Z': 2, 'z': 2, 'E': 3, 'e': 3, 'l': 4, 'x': 5, '.': 0, '-': -1, '+': 6}[c]
}

// lineOf: the line of a letter, which differs from all others by n.
func lineOf(c rune, n int) api.Line {
	l := api.Line{Kind: kindOf(c)}
	switch c {
	case 'r':
		l.Rule = api.Rule{Name: fmt.Sprint("R", n), From: 1900 + n, To: 2000 + n, Month: 1 + n%12, On: api.Day{Kind: n % 4, Day: n, Week: n % 7}, At: api.At{Sec: n, Kind: n % 3}, Save: -n, Letter: fmt.Sprint("L", n)}
	case 'Z', 'z':
		l.Name = fmt.Sprint("Z", n)
		l.Era = eraOf(c == 'Z', n)
	case 'E', 'e':
		l.Era = eraOf(c == 'E', n)
	case 'l':
		l.Target, l.Name = fmt.Sprint("T", n), fmt.Sprint("N", n)
	case 'x':
		l.Err, l.Col = api.Kind(1+n%21), 100+n
	}
	return l
}

func eraOf(has bool, n int) api.Era {
	e := api.Era{Off: 60 * n, Kind: n % 3, Save: n, Rules: fmt.Sprint("R", n), Format: fmt.Sprint("F", n)}
	if has {
		e.Until = api.Until{Has: true, Year: 1900 + n, Month: 1 + n%12, On: api.Day{Kind: n % 4, Day: n, Week: n % 7}, At: api.At{Sec: n, Kind: n % 3}}
	}
	return e
}

// crowded: the same lines, each with values in the parts, too, that mean nothing in it.
func crowded(l []api.Line) []api.Line {
	var all []api.Line
	for n, x := range l {
		y := api.Line{Kind: x.Kind, Rule: lineOf('r', 500+n).Rule, Name: fmt.Sprint("no", n), Target: fmt.Sprint("nowhere", n), Era: eraOf(true, 500+n), Err: api.Kind(n % 22), Col: 500 + n}
		switch x.Kind {
		case 1:
			y.Rule = x.Rule
		case 2:
			y.Name, y.Era = x.Name, x.Era
		case 3:
			y.Era = x.Era
		case 4:
			y.Target, y.Name = x.Target, x.Name
		case 5:
			y.Err, y.Col = x.Err, x.Col
		}
		all = append(all, y)
	}
	return all
}

func linesOf(script string) []api.Line {
	var l []api.Line
	for n, c := range script {
		l = append(l, lineOf(c, n))
	}
	return l
}

// told: where everything of a document stands, and what is wrong there: "R0 Z1,2 L3 4:0 Open".
func told(d document.Doc) string {
	var l []string
	for _, r := range d.Rules {
		l = append(l, fmt.Sprint("R", r.Line))
	}
	for _, z := range d.Zones {
		l = append(l, "Z"+strings.Trim(strings.ReplaceAll(fmt.Sprint(z.Lines), " ", ","), "[]"))
	}
	for _, x := range d.Links {
		l = append(l, fmt.Sprint("L", x.Line))
	}
	for _, x := range d.Diags {
		l = append(l, fmt.Sprintf("%s%d:%d %s", x.Doc, x.Line, x.Col, kindName(x.K)))
	}
	return strings.Join(l, " ")
}

func kindName(k api.Kind) string {
	switch k {
	case api.NoZone:
		return "NoZone"
	case api.TooLarge:
		return "TooLarge"
	case api.Open:
		return "Open"
	}
	return fmt.Sprint(int(k))
}

// openAhead: is a zone open ahead of line i? It is asked from there back, not from the begin on.
func openAhead(l []api.Line, i int) bool {
	for i--; i >= 0; i-- {
		switch l[i].Kind {
		case 1, 4:
			return false
		case 2:
			return l[i].Era.Until.Has
		case 3:
			return l[i].Era.Until.Has && openAhead(l, i)
		}
	}
	return false
}

// own: the lines of the zone that begins in line i: those that count, and those that are too many.
func own(l []api.Line, i int) (count, more []int) {
	all := []int{i}
	for j := i + 1; j < len(l) && !slices.Contains([]int{1, 2, 4}, l[j].Kind); j++ {
		if l[j].Kind == 3 && openAhead(l, j) {
			all = append(all, j)
		}
	}
	n := min(len(all), 8)
	return all[:n], all[n:]
}

// model: Of, told from the words of the chapter.
func model(l []api.Line) document.Doc {
	var d document.Doc
	var end int // the line of the last zone's last era
	tooMany := map[int]bool{}
	for i, x := range l {
		switch x.Kind {
		case 1:
			d.Rules = append(d.Rules, document.Rule{R: x.Rule, Line: i})
		case 2:
			count, more := own(l, i)
			end = count[len(count)-1]
			z := document.Zone{Name: x.Name, Lines: count}
			for _, j := range count {
				z.Eras = append(z.Eras, l[j].Era)
			}
			for _, j := range more {
				tooMany[j] = true
			}
			d.Zones = append(d.Zones, z)
		case 4:
			d.Links = append(d.Links, document.Link{Target: x.Target, Name: x.Name, Line: i})
		}
		if diag, ok := modelDiag(l, i, tooMany[i]); ok {
			d.Diags = append(d.Diags, diag)
		}
	}
	if openAhead(l, len(l)) {
		d.Diags = append(d.Diags, api.Diag{Line: end, K: 21})
	}
	return d
}

// modelDiag: what is wrong with line i.
func modelDiag(l []api.Line, i int, tooMany bool) (api.Diag, bool) {
	switch open := openAhead(l, i); {
	case l[i].Kind == 5:
		return api.Diag{Line: i, Col: l[i].Col, K: l[i].Err}, true
	case l[i].Kind == 3 && !open:
		return api.Diag{Line: i, K: 10}, true
	case l[i].Kind == 3 && tooMany:
		return api.Diag{Line: i, K: 17}, true
	case slices.Contains([]int{1, 2, 4}, l[i].Kind) && open:
		return api.Diag{Line: i, K: 21}, true
	}
	return api.Diag{}, false
}

func asTheModel(t *testing.T, what string, l []api.Line) {
	t.Helper()
	same(t, "Of "+what, document.Of(l), model(l))
}

// everyScript calls f with each text of at most n letters.
func everyScript(n int, f func(script string)) {
	f("")
	if n == 0 {
		return
	}
	for _, c := range letters {
		everyScript(n-1, func(rest string) { f(string(c) + rest) })
	}
}

// wild: no kinds of lines; some would be, if their high bits were dropped.
var wild = []int{
	math.MinInt, math.MinInt + 3, math.MinInt32, -1<<32 + 3, -256 + 2, -3, -2, -1, 6, 7, 8, 10, 255, 256, 257, 258, 259, 260, 261,
	1 << 16, 1<<16 + 2, 1 << 32, 1<<32 + 1, 1<<32 + 2, 1<<32 + 3, 1<<32 + 4, 1<<32 + 5, math.MaxInt32, math.MaxInt,
}

// P1001: Of.

func TestOfNoLine(t *testing.T) {
	same(t, "Of nil", document.Of(nil), document.Doc{})
	same(t, "Of no line", document.Of([]api.Line{}), document.Doc{})
	same(t, "Of no line, with room", document.Of(make([]api.Line, 0, 8)), document.Doc{})
}

func TestOfEachLineAlone(t *testing.T) {
	era := api.Era{Off: 3600, Kind: 2, Rules: "EU", Format: "CE%sT"}
	ends := api.Era{Off: 3600, Kind: 1, Save: 60, Format: "X", Until: api.Until{Has: true, Year: 1990, Month: 3, On: api.Day{Kind: 1}, At: api.At{Sec: 7200, Kind: 2}}}
	rule := api.Rule{Name: "EU", From: 1981, To: api.Endless, Month: 3, On: api.Day{Kind: 1}, At: api.At{Sec: 3600, Kind: 2}, Save: 3600, Letter: "S"}
	for _, x := range []struct {
		l    api.Line
		want document.Doc
	}{
		{api.Line{}, document.Doc{}},
		{api.Line{Kind: 1, Rule: rule}, document.Doc{Rules: []document.Rule{{R: rule, Line: 0}}}},
		{api.Line{Kind: 2, Name: "A", Era: era}, document.Doc{Zones: []document.Zone{{Name: "A", Eras: []api.Era{era}, Lines: []int{0}}}}},
		{api.Line{Kind: 2, Name: "A", Era: ends}, document.Doc{Zones: []document.Zone{{Name: "A", Eras: []api.Era{ends}, Lines: []int{0}}}, Diags: []api.Diag{{K: api.Open}}}},
		{api.Line{Kind: 3, Era: era}, document.Doc{Diags: []api.Diag{{K: api.NoZone}}}},
		{api.Line{Kind: 3, Era: ends}, document.Doc{Diags: []api.Diag{{K: api.NoZone}}}},
		{api.Line{Kind: 4, Target: "A", Name: "B"}, document.Doc{Links: []document.Link{{Target: "A", Name: "B", Line: 0}}}},
		{api.Line{Kind: 5, Err: api.BadDay, Col: 17}, document.Doc{Diags: []api.Diag{{Col: 17, K: api.BadDay}}}},
	} {
		same(t, fmt.Sprintf("Of %+v alone", x.l), document.Of([]api.Line{x.l}), x.want)
	}
}

// TestOfLines: where everything stands, and what is wrong; what the parts hold is held against the model.
func TestOfLines(t *testing.T) {
	for _, x := range []struct{ script, want string }{
		// lines that say nothing
		{".", ""}, {"...", ""}, {"-", ""}, {"+", ""}, {"-.+", ""},
		// rules, zones and links, in order
		{"rrr", "R0 R1 R2"}, {"zzz", "Z0 Z1 Z2"}, {"lll", "L0 L1 L2"}, {"lzr", "R2 Z1 L0"}, {".r.z.l.", "R1 Z3 L5"},
		{"Ze", "Z0,1"}, {"ZEe", "Z0,1,2"}, {"ZEEe", "Z0,1,2,3"}, {"ZeZEe", "Z0,1 Z2,3,4"}, {"rZelzZEer", "R0 R8 Z1,2 Z4 Z5,6,7 L3"},
		// continuations of no zone
		{"e", "0:0 NoZone"}, {"E", "0:0 NoZone"}, {"Ee", "0:0 NoZone 1:0 NoZone"}, {"eee", "0:0 NoZone 1:0 NoZone 2:0 NoZone"},
		{"ze", "Z0 1:0 NoZone"}, {"zE", "Z0 1:0 NoZone"}, {"zEe", "Z0 1:0 NoZone 2:0 NoZone"}, {"Zee", "Z0,1 2:0 NoZone"}, {"ZeE", "Z0,1 2:0 NoZone"}, {"ZeEe", "Z0,1 2:0 NoZone 3:0 NoZone"}, {"ZEeE", "Z0,1,2 3:0 NoZone"},
		{"re", "R0 1:0 NoZone"}, {"rE", "R0 1:0 NoZone"}, {"le", "L0 1:0 NoZone"}, {"lE", "L0 1:0 NoZone"}, {"eze", "Z1 0:0 NoZone 2:0 NoZone"}, {"eZe", "Z1,2 0:0 NoZone"},
		{".e", "1:0 NoZone"}, {"xe", "0:100 1 1:0 NoZone"}, {"-e", "1:0 NoZone"}, {"+e", "1:0 NoZone"},
		// what ends a zone that is open
		{"Zr", "R1 Z0 1:0 Open"}, {"Zz", "Z0 Z1 1:0 Open"}, {"Zl", "Z0 L1 1:0 Open"}, {"ZEr", "R2 Z0,1 2:0 Open"}, {"ZEz", "Z0,1 Z2 2:0 Open"}, {"ZEl", "Z0,1 L2 2:0 Open"},
		{"Zre", "R1 Z0 1:0 Open 2:0 NoZone"}, {"Zle", "Z0 L1 1:0 Open 2:0 NoZone"}, {"Zze", "Z0 Z1 1:0 Open 2:0 NoZone"}, {"ZrE", "R1 Z0 1:0 Open 2:0 NoZone"},
		{"ZZe", "Z0 Z1,2 1:0 Open"}, {"ZZZe", "Z0 Z1 Z2,3 1:0 Open 2:0 Open"}, {"Zrr", "R1 R2 Z0 1:0 Open"}, {"Zll", "Z0 L1 L2 1:0 Open"}, {"Zrl", "R1 Z0 L2 1:0 Open"}, {"Z.r", "R2 Z0 2:0 Open"}, {"Zxr", "R2 Z0 1:101 2 2:0 Open"},
		// a zone that is open in the end
		{"Z", "Z0 0:0 Open"}, {"ZE", "Z0,1 1:0 Open"}, {"ZEE", "Z0,1,2 2:0 Open"}, {"rZE", "R0 Z1,2 2:0 Open"}, {"Z.", "Z0 0:0 Open"}, {"Z.E..", "Z0,2 2:0 Open"}, {"Zx", "Z0 1:101 2 0:0 Open"}, {"ZE.x.x", "Z0,1 3:103 4 5:105 6 1:0 Open"}, {"Z-E+", "Z0,2 2:0 Open"}, {"ZZ", "Z0 Z1 1:0 Open 1:0 Open"}, {"ZEZ", "Z0,1 Z2 2:0 Open 2:0 Open"},
		// what says nothing, or is wrong, within a zone
		{"Z.e", "Z0,2"}, {"Zxe", "Z0,2 1:101 2"}, {"Z-e", "Z0,2"}, {"Z+e", "Z0,2"}, {"Z.xE+-.xe", "Z0,3,8 2:102 3 7:107 8"},
		{"z.e", "Z0 2:0 NoZone"}, {"zxe", "Z0 1:101 2 2:0 NoZone"}, {"Ze.e", "Z0,1 3:0 NoZone"},
		// what is wrong, in order
		{"xxx", "0:100 1 1:101 2 2:102 3"}, {"eZrxEZ", "R2 Z1 Z5 0:0 NoZone 2:0 Open 3:103 4 4:0 NoZone 5:0 Open"},
	} {
		l := linesOf(x.script)
		is(t, fmt.Sprintf("Of %q", x.script), told(document.Of(l)), x.want)
		is(t, fmt.Sprintf("Of %q, crowded", x.script), told(document.Of(crowded(l))), x.want)
		asTheModel(t, fmt.Sprintf("%q", x.script), l)
	}
}

// TestOfManyEras: about MaxEras of a zone, and whether the line behind them finds it open.
func TestOfManyEras(t *testing.T) {
	is(t, "MaxEras", api.MaxEras, 8)
	seven, eight, seventh := "Z"+strings.Repeat("E", 6), "Z"+strings.Repeat("E", 7), "Z0,1,2,3,4,5,6"
	for _, x := range []struct{ script, want string }{
		{seven, seventh + " 6:0 Open"}, {seven + "e", seventh + ",7"}, {seven + "ee", seventh + ",7 8:0 NoZone"}, {seven + "r", "R7 " + seventh + " 7:0 Open"},
		{eight, seventh + ",7 7:0 Open"}, {eight + "r", "R8 " + seventh + ",7 8:0 Open"}, {eight + "z", seventh + ",7 Z8 8:0 Open"}, {eight + "l", seventh + ",7 L8 8:0 Open"},
		{eight + "e", seventh + ",7 8:0 TooLarge"}, {eight + "er", "R9 " + seventh + ",7 8:0 TooLarge"}, {eight + "el", seventh + ",7 L9 8:0 TooLarge"}, {eight + "ez", seventh + ",7 Z9 8:0 TooLarge"},
		{eight + "ee", seventh + ",7 8:0 TooLarge 9:0 NoZone"}, {eight + "eE", seventh + ",7 8:0 TooLarge 9:0 NoZone"}, {eight + "eZe", seventh + ",7 Z9,10 8:0 TooLarge"}, {eight + "e.x", seventh + ",7 8:0 TooLarge 10:110 11"},
		{eight + "E", seventh + ",7 8:0 TooLarge 7:0 Open"}, {eight + "Er", "R9 " + seventh + ",7 8:0 TooLarge 9:0 Open"}, {eight + "El", seventh + ",7 L9 8:0 TooLarge 9:0 Open"}, {eight + "Ez", seventh + ",7 Z9 8:0 TooLarge 9:0 Open"},
		{eight + "EE", seventh + ",7 8:0 TooLarge 9:0 TooLarge 7:0 Open"}, {eight + "EEe", seventh + ",7 8:0 TooLarge 9:0 TooLarge 10:0 TooLarge"}, {eight + "EeE", seventh + ",7 8:0 TooLarge 9:0 TooLarge 10:0 NoZone"},
		{eight + "Er" + "E", "R9 " + seventh + ",7 8:0 TooLarge 9:0 Open 10:0 NoZone"}, {eight + "E.", seventh + ",7 8:0 TooLarge 7:0 Open"}, {eight + "Ex", seventh + ",7 8:0 TooLarge 9:109 NoZone 7:0 Open"}, {eight + ".E.x.", seventh + ",7 9:0 TooLarge 11:111 12 7:0 Open"},
		{eight + "." + "e", seventh + ",7 9:0 TooLarge"}, {eight + "E" + "ZEEe", seventh + ",7 Z9,10,11,12 8:0 TooLarge 9:0 Open"},
		{"Z.E.E.E.E.E.E.E.e", "Z0,2,4,6,8,10,12,14 16:0 TooLarge"}, {"Z.E.E.E.E.E.E.e", "Z0,2,4,6,8,10,12,14"},
		{"zEEEEEEEEe", "Z0 1:0 NoZone 2:0 NoZone 3:0 NoZone 4:0 NoZone 5:0 NoZone 6:0 NoZone 7:0 NoZone 8:0 NoZone 9:0 NoZone"},
		{"Ze" + eight + "e", "Z0,1 Z2,3,4,5,6,7,8,9 10:0 TooLarge"}, {seven + "e" + seven + "e", seventh + ",7 Z8,9,10,11,12,13,14,15"},
	} {
		l := linesOf(x.script)
		is(t, fmt.Sprintf("Of %q", x.script), told(document.Of(l)), x.want)
		asTheModel(t, fmt.Sprintf("%q", x.script), l)
	}
}

// TestOfLinesThatAreWrong: each kind at each place, alone, behind an open zone and within one, which stays open.
func TestOfLinesThatAreWrong(t *testing.T) {
	ends, last := lineOf('Z', 1), lineOf('e', 2)
	whole := []document.Zone{{Name: "Z1", Eras: []api.Era{ends.Era, last.Era}, Lines: []int{0, 2}}}
	begun := []document.Zone{{Name: "Z1", Eras: []api.Era{ends.Era}, Lines: []int{0}}}
	for _, k := range append([]int{0, 1, 2, 3, 4, 5, 9, 10, 11, 12, 13, 14, 15, 16, 17, 18, 19, 20, 21, 22}, wild...) {
		for _, col := range append([]int{0, 1, 2, 3, 40, 199, 200, 201}, wild...) {
			x := api.Line{Kind: 5, Err: api.Kind(k), Col: col}
			diag := api.Diag{Line: 1, Col: col, K: api.Kind(k)}
			what := fmt.Sprintf("Of what is wrong, %d at %d", k, col)
			same(t, what+", alone", document.Of([]api.Line{x}), document.Doc{Diags: []api.Diag{{Col: col, K: api.Kind(k)}}})
			same(t, what+", in an open zone", document.Of([]api.Line{ends, x, last}), document.Doc{Zones: whole, Diags: []api.Diag{diag}})
			same(t, what+", behind an open zone", document.Of([]api.Line{ends, x}), document.Doc{Zones: begun, Diags: []api.Diag{diag, {Line: 0, K: api.Open}}})
			same(t, what+", ahead of a zone", document.Of([]api.Line{{}, x, {}}), document.Doc{Diags: []api.Diag{diag}})
		}
	}
}

// TestOfOtherKinds: lines of kinds that are none do nothing, whatever else they hold.
func TestOfOtherKinds(t *testing.T) {
	for _, kind := range append(slices.Clone(wild), 0) {
		none := crowded([]api.Line{{Kind: kind}})[0]
		same(t, fmt.Sprintf("Of Kind %d alone", kind), document.Of([]api.Line{{Kind: kind}}), document.Doc{})
		same(t, fmt.Sprintf("Of Kind %d alone, crowded", kind), document.Of([]api.Line{none}), document.Doc{})
		for _, x := range []struct{ script, want string }{{"Ze", "Z0,2"}, {"ZE", "Z0,2 2:0 Open"}, {"Zr", "R2 Z0 2:0 Open"}, {"ze", "Z0 2:0 NoZone"}, {"re", "R0 2:0 NoZone"}, {"lr", "R2 L0"}} {
			l := slices.Insert(linesOf(x.script), 1, none)
			is(t, fmt.Sprintf("Of %q, Kind %d within", x.script, kind), told(document.Of(l)), x.want)
			is(t, fmt.Sprintf("Of %q, Kind %d behind", x.script[:1], kind), told(document.Of(l[:2])), told(document.Of(l[:1])))
		}
	}
}

func TestOfEveryShortDocument(t *testing.T) {
	everyScript(5, func(script string) {
		l := linesOf(script)
		asTheModel(t, fmt.Sprintf("%q", script), l)
		if len(script) < 5 {
			asTheModel(t, fmt.Sprintf("%q, crowded", script), crowded(l))
		}
	})
}

func TestOfEveryEndBehindManyEras(t *testing.T) {
	for n := 5; n <= 9; n++ {
		everyScript(3, func(script string) {
			script = "Z" + strings.Repeat("E", n-1) + script
			asTheModel(t, fmt.Sprintf("%q", script), linesOf(script))
			asTheModel(t, fmt.Sprintf("%q, crowded", script), crowded(linesOf("r."+script)))
		})
	}
}

func TestOfDocumentsByChance(t *testing.T) {
	chance := rand.New(rand.NewSource(10))
	for _, of := range []string{letters, "ZEEEEEEEEEEEEEEE.x", "ZzEEEEEEeerl.", "ZEEEEEEEEEEEEr"} {
		for range 3000 {
			script := make([]byte, chance.Intn(60))
			for i := range script {
				script[i] = of[chance.Intn(len(of))]
			}
			asTheModel(t, fmt.Sprintf("%q", script), linesOf(string(script)))
			asTheModel(t, fmt.Sprintf("%q, crowded", script), crowded(linesOf(string(script))))
		}
	}
}

// TestOfMoreLinesThanMaxLines: it limits no list of lines.
func TestOfMoreLinesThanMaxLines(t *testing.T) {
	for _, script := range []string{"r", "z", "l", "x", "e", "Ze", "Z", "r.Ze", "ZEEEEEEEEEE", ".", "+"} {
		asTheModel(t, fmt.Sprintf("many of %q", script), linesOf(strings.Repeat(script, 1000)))
	}
	d := document.Of(linesOf("Z" + strings.Repeat("E", 5000)))
	is(t, "eras of a zone of 5001", len(d.Zones[0].Eras), 8)
	is(t, "diags of a zone of 5001 eras", fmt.Sprint(len(d.Diags), d.Diags[0], d.Diags[4992], d.Diags[4993]), fmt.Sprint(4994, api.Diag{Line: 8, K: api.TooLarge}, api.Diag{Line: 5000, K: api.TooLarge}, api.Diag{Line: 7, K: api.Open}))
}

// TestOfNamesThatComeAgain: nothing is said of them here.
func TestOfNamesThatComeAgain(t *testing.T) {
	d := document.Parse("Zone A 0 - X\nZone A 1 - Y\nLink A A\nLink B A\nLink B A\nRule r 1990 only - Mar 1 0 0 S\nRule r 1990 only - Mar 1 0 0 S")
	is(t, "names that come again", told(d), "R5 R6 Z0 Z1 L2 L3 L4")
}

// withRoom: the same lines with room behind them, which is not theirs to be written into.
func withRoom(l []api.Line) []api.Line {
	room := make([]api.Line, len(l), len(l)+3)
	copy(room, l)
	for i := len(l); i < cap(room); i++ {
		room[:cap(room)][i] = lineOf('r', 900+i)
	}
	return room
}

func TestLinesThatAreGivenStay(t *testing.T) {
	everyScript(3, func(script string) {
		l := withRoom(linesOf("ZE" + script))
		before := slices.Clone(l[:cap(l)])
		d := document.Of(l)
		if !slices.Equal(l[:cap(l)], before) {
			t.Fatalf("Of %q has changed its lines", script)
		}
		want := model(l)
		for i := range l[:cap(l)] {
			l[:cap(l)][i] = lineOf('l', 800+i)
		}
		same(t, fmt.Sprintf("Of %q, the lines being changed behind it", script), d, want)
	})
}

// fill writes into the room behind a list.
func fill[T any](l []T, x T) {
	for i := len(l); i < cap(l); i++ {
		l[:cap(l)][i] = x
	}
}

// TestListsOfAnAnswerShareNothing: what is written into one list of an answer, or behind it, is to be seen in no other one.
func TestListsOfAnAnswerShareNothing(t *testing.T) {
	l := linesOf("rZEEelZeZEErrZEEEEEEEEex.lzxz")
	other, want := document.Of(l), model(l)
	d := document.Of(l)
	fill(d.Rules, document.Rule{Line: -1})
	fill(d.Links, document.Link{Line: -1})
	fill(d.Diags, api.Diag{Line: -1})
	fill(d.Zones, document.Zone{Name: "-"})
	for _, z := range d.Zones {
		fill(z.Eras, api.Era{Off: -1})
		fill(z.Lines, -1)
	}
	same(t, "an answer, when its room is filled", d, want)
	for i, z := range d.Zones {
		for j := range z.Eras {
			z.Eras[j], z.Lines[j] = api.Era{Off: -2}, -2
		}
		same(t, "zones behind one that is changed", document.Doc{Zones: d.Zones[i+1:]}, document.Doc{Zones: want.Zones[i+1:]})
	}
	clear(d.Rules)
	clear(d.Zones)
	clear(d.Links)
	clear(d.Diags)
	same(t, "another answer", other, want)
	same(t, "a later answer", document.Of(l), want)
}

// P1002: Lines, Parse.

func TestLinesOfTexts(t *testing.T) {
	for _, x := range []struct {
		s    string
		want []string
	}{
		{"", []string{""}}, {"\n", []string{"", ""}}, {"\n\n", []string{"", "", ""}}, {"\n\n\n", []string{"", "", "", ""}},
		{"a", []string{"a"}}, {"a\n", []string{"a", ""}}, {"\na", []string{"", "a"}}, {"a\nb", []string{"a", "b"}}, {"a\nb\n", []string{"a", "b", ""}}, {"a\n\nb", []string{"a", "", "b"}}, {"a\n\nb\n\n", []string{"a", "", "b", "", ""}},
		{"\r", []string{""}}, {"\r\n", []string{"", ""}}, {"\n\r", []string{"", ""}}, {"\r\n\r\n", []string{"", "", ""}}, {"a\r", []string{"a"}}, {"a\r\n", []string{"a", ""}}, {"a\r\nb", []string{"a", "b"}}, {"a\nb\r", []string{"a", "b"}}, {"a\r\nb\r\n", []string{"a", "b", ""}}, {"a\r\nb\nc\r", []string{"a", "b", "c"}},
		{"\r\r", []string{"\r"}}, {"a\r\r", []string{"a\r"}}, {"a\r\r\nb", []string{"a\r", "b"}}, {"a\r\r\r\n", []string{"a\r\r", ""}}, {"\r\r\n\r\r", []string{"\r", "\r"}},
		{"a\rb", []string{"a\rb"}}, {"\ra", []string{"\ra"}}, {"\r\na\r", []string{"", "a"}}, {"a\rb\r\n\rc", []string{"a\rb", "\rc"}}, {"\r \n", []string{"\r ", ""}}, {"a\r \r\n", []string{"a\r ", ""}},
		{" a \n\tb\t", []string{" a ", "\tb\t"}}, {"a\vb\fc\u0085d\u2028e\x00f\n", []string{"a\vb\fc\u0085d\u2028e\x00f", ""}}, {"\xff\n\xc3\r\n\xa9", []string{"\xff", "\xc3", "\xa9"}}, {"\u010a\n\u0a0d\r", []string{"\u010a", "\u0a0d"}}, {`a\nb`, []string{`a\nb`}},
		{strings.Repeat("x", 30000), []string{strings.Repeat("x", 30000)}},
	} {
		is(t, fmt.Sprintf("Lines of %q", x.s), fmt.Sprintf("%q", document.Lines(x.s)), fmt.Sprintf("%q", x.want))
	}
	is(t, "Lines of 1000 feeds", len(document.Lines(strings.Repeat("\n", 1000))), 1001)
}

var returnAtEnd = regexp.MustCompile(`(?s)\r(\n|\z)`)

// linesAsWords: as many as there are feeds, and one more; laid together again they are the text without the returns at their ends.
func linesAsWords(t *testing.T, s string) {
	t.Helper()
	l := document.Lines(s)
	if n := 1 + strings.Count(s, "\n"); len(l) != n {
		t.Fatalf("Lines of %q: %q: %d, not %d", s, l, len(l), n)
	}
	if got, want := strings.Join(l, "\n"), returnAtEnd.ReplaceAllString(s, "$1"); got != want {
		t.Fatalf("Lines of %q, together: %q, not %q", s, got, want)
	}
}

// everyText calls f with every text of at most n of these bytes.
func everyText(n int, bytes string, f func(s string)) {
	f("")
	if n == 0 {
		return
	}
	for i := range len(bytes) {
		everyText(n-1, bytes, func(s string) { f(bytes[i:i+1] + s) })
	}
}

func TestLinesOfEveryShortText(t *testing.T) {
	everyText(7, "\n\ra ", func(s string) { linesAsWords(t, s) })
	for c := range 256 {
		x := string([]byte{byte(c)})
		for _, s := range []string{x, x + "\n", "\n" + x, x + "\r\n", "\r" + x, "a" + x + "b", "a\n" + x + "\nb", "a" + x + "\r\n" + x, x + x} {
			linesAsWords(t, s)
		}
	}
}

func TestLinesShareNothing(t *testing.T) {
	const s = "a\nb\r\nc\n\nd"
	want := fmt.Sprintf("%q", []string{"a", "b", "c", "", "d"})
	l := document.Lines(s)
	other := document.Lines(s)
	fill(l, "x")
	is(t, "Lines, when their room is filled", fmt.Sprintf("%q", l), want)
	clear(l)
	is(t, "Lines, when others are changed", fmt.Sprintf("%q", other), want)
	is(t, "Lines behind that", fmt.Sprintf("%q", document.Lines(s)), want)
}

func TestParse(t *testing.T) {
	x := api.Era{Format: "X", Until: api.Until{Has: true, Year: 2000, Month: 1, On: api.Day{Day: 1}}}
	y := api.Era{Off: 3600, Kind: 2, Rules: "EU", Format: "CE%sT"}
	rule := api.Rule{Name: "EU", From: 1990, To: 1990, Month: 3, On: api.Day{Day: 1}, Letter: "S"}
	for _, c := range []struct {
		s    string
		want document.Doc
	}{
		{"", document.Doc{}}, {"\n", document.Doc{}}, {"\r\n", document.Doc{}}, {"# note\n\t\n  # another", document.Doc{}},
		{"Zone A 0 - X 2000\n1 EU CE%sT", document.Doc{Zones: []document.Zone{{Name: "A", Eras: []api.Era{x, y}, Lines: []int{0, 1}}}}},
		{"# a\r\nZone A 0 - X 2000\r\n\r\n\t\t\t1:00\tEU\tCE%sT # b\r\n", document.Doc{Zones: []document.Zone{{Name: "A", Eras: []api.Era{x, y}, Lines: []int{1, 3}}}}},
		{"Rule EU 1990 only - Mar 1 0 0 S\r\nLink A B", document.Doc{Rules: []document.Rule{{R: rule, Line: 0}}, Links: []document.Link{{Target: "A", Name: "B", Line: 1}}}},
		{"l A B\nru EU 1990 1990 - mar 1 - - S", document.Doc{Rules: []document.Rule{{R: rule, Line: 1}}, Links: []document.Link{{Target: "A", Name: "B", Line: 0}}}},
		{"Zone B 1:00 EU CE%sT\nZone A 0 - X 2000", document.Doc{Zones: []document.Zone{{Name: "B", Eras: []api.Era{y}, Lines: []int{0}}, {Name: "A", Eras: []api.Era{x}, Lines: []int{1}}}, Diags: []api.Diag{{Line: 1, K: api.Open}}}},
		{"foo\n bar", document.Doc{Diags: []api.Diag{{Line: 0, Col: 0, K: api.Syntax}, {Line: 1, Col: 1, K: api.Syntax}}}},
		{"Link A -\n  Link A\n\"\nZone A 25 - X\n 0 - X", document.Doc{Diags: []api.Diag{{Line: 0, Col: 7, K: api.BadName}, {Line: 1, Col: 2, K: api.Fields}, {Line: 2, Col: 0, K: api.Unclosed}, {Line: 3, Col: 7, K: api.BadTime}, {Line: 4, Col: 0, K: api.NoZone}}}},
	} {
		same(t, fmt.Sprintf("Parse of %q", c.s), document.Parse(c.s), c.want)
	}
}

// TestParseTellsPlaces: a wrong continuation leaves its zone open, a wrong Zone line leaves its continuations without one.
func TestParseTellsPlaces(t *testing.T) {
	for _, x := range []struct{ s, want string }{
		{"Zone A 1:00 - X 2000\n0 - Y", "Z0,1"},
		{"Zone A 1:00 - X 2000\n# note\n0 - Y\r\nRule EU 1990 only - Mar 1 0 0 S\n0 - Z\nLink A B\nZone C 0 - U 2000\nfoo", "R3 Z0,2 Z6 L5 4:0 NoZone 7:0 3 6:0 Open"},
		{"Zone A 1:00 - X 2000\n  0 - \n  0 - Y", "Z0,2 1:2 4"},
		{"Zone A 1:00 - X 2000 Feb 30\n  0 - Y", "0:25 6 1:0 NoZone"},
		{"Zone A 1:00 - X\n  0 - Y", "Z0 1:0 NoZone"},
		{"  0 - Y\nZone A 1:00 - X", "Z1 0:0 NoZone"},
		{"Zone A 1:00 - X 2000\nZone B 1:00 - X 2000\nLink A B", "Z0 Z1 L2 1:0 Open 2:0 Open"},
		{"Zone A 0 - A 1901" + strings.Repeat("\n0 - B 1902", 7) + "\n0 - C", "Z0,1,2,3,4,5,6,7 8:0 TooLarge"},
		{"Zone A 0 - A 1901" + strings.Repeat("\n0 - B 1902", 8) + "\n", "Z0,1,2,3,4,5,6,7 8:0 TooLarge 7:0 Open"},
		{"Zone A 0 - A 1901" + strings.Repeat("\n0 - B 1902", 6) + "\n0 - C\n", "Z0,1,2,3,4,5,6,7"},
		// a return within a line is white, at its end it is none of its bytes
		{"Link A\rB", "L0"}, {"\rLink A B\r\r\n", "L0"}, {"Link A\r\nB", "0:0 4 1:0 3"}, {"Link A B\r", "L0"}, {"Link A \"B\r\"", "0:7 5"},
		{strings.Repeat(" ", 192) + "Link A B", "L0"}, {strings.Repeat(" ", 192) + "Link A B\r", "L0"}, {strings.Repeat(" ", 192) + "Link A B\r\nLink A B", "L0 L1"}, {strings.Repeat(" ", 192) + "Link A B\r\r\nLink A B", "L1 0:0 TooLarge"}, {strings.Repeat(" ", 193) + "Link A B", "0:0 TooLarge"}, {strings.Repeat(" ", 201), "0:0 TooLarge"},
		{"\"Link\r\nA B", "0:0 9 1:0 3"}, {"Link A \"B\nC\"", "0:7 9 1:1 9"},
	} {
		is(t, fmt.Sprintf("Parse of %q", x.s), told(document.Parse(x.s)), x.want)
	}
}

// textOf: a text of what a letter stands for, other than all others by n.
func textOf(c rune, n int) string {
	switch c {
	case 'r':
		return fmt.Sprintf("Rule r%d %d only - Mar lastSun 1:00u 0:%02d -", n, 1900+n, n%60)
	case 'Z':
		return fmt.Sprintf("Zone Z%d 1:00 - X%d %d", n, n, 1900+n)
	case 'z':
		return fmt.Sprintf("Zone Z%d 2:00 - X%d", n, n)
	case 'E':
		return fmt.Sprintf("\t\t0:%02d\t-\tY%d\t%d Oct", n%60, n, 1900+n)
	case 'e':
		return fmt.Sprintf("-1:%02d r%d Y%d", n%60, n, n)
	case 'l':
		return fmt.Sprintf("Link Z%d L%d", n, n)
	case 'x':
		return strings.Repeat(" ", n%50) + "Zone A"
	}
	return fmt.Sprint("# note ", n)
}

func textsOf(script string) []string {
	var l []string
	for n, c := range script {
		l = append(l, textOf(c, n))
	}
	return l
}

// TestParseOfTexts: Of line's Parse of each line, whatever ends them.
func TestParseOfTexts(t *testing.T) {
	everyScript(4, func(script string) {
		texts := textsOf(script)
		var l []api.Line
		for _, s := range texts {
			l = append(l, line.Parse(s))
		}
		want := model(l)
		for _, end := range []string{"\n", "\r\n"} {
			s := strings.Join(texts, end)
			same(t, fmt.Sprintf("Parse of %q", s), document.Parse(s), want)
			same(t, fmt.Sprintf("Parse of %q, with a feed behind it", s), document.Parse(s+end), want)
		}
	})
}

func TestParseOfBytesByChance(t *testing.T) {
	chance := rand.New(rand.NewSource(1002))
	pieces := append(textsOf(letters+"EEEEZZ"), "\n", "\n", "\n", "\r\n", "\r", "\r\r\n", "\n\n", " ", `"`, "#", "\x00", "\xff", "Zone", "0", "-", "2000", "Link", "é")
	for range 20000 {
		var s string
		for range chance.Intn(30) {
			s += pieces[chance.Intn(len(pieces))]
		}
		linesAsWords(t, s)
		var l []api.Line
		for _, x := range strings.Split(returnAtEnd.ReplaceAllString(s, "$1"), "\n") {
			l = append(l, line.Parse(x))
		}
		same(t, fmt.Sprintf("Parse of %q", s), document.Parse(s), model(l))
	}
}

// P1003: laws.

// moved: the document, when n lines are put in ahead of line i.
func moved(d document.Doc, i, n int) document.Doc {
	to := func(line int) int {
		if line >= i {
			return line + n
		}
		return line
	}
	var m document.Doc
	for _, r := range d.Rules {
		m.Rules = append(m.Rules, document.Rule{R: r.R, Line: to(r.Line)})
	}
	for _, z := range d.Zones {
		var lines []int
		for _, x := range z.Lines {
			lines = append(lines, to(x))
		}
		m.Zones = append(m.Zones, document.Zone{Name: z.Name, Eras: z.Eras, Lines: lines})
	}
	for _, x := range d.Links {
		m.Links = append(m.Links, document.Link{Target: x.Target, Name: x.Name, Line: to(x.Line)})
	}
	for _, x := range d.Diags {
		m.Diags = append(m.Diags, api.Diag{Doc: x.Doc, Line: to(x.Line), Col: x.Col, K: x.K})
	}
	return m
}

// lawful: texts of zones, rules and links, of which some are open, some too long, some wrong.
func lawful() []string {
	l := []string{"", "ZEEe", "rZelzZEer", "ZrZlZzZ", "eZxEz", "ZEEEEEEEE", "ZEEEEEEEEe", "ZEEEEEEEEEr", "ZEEEEEEEeE", "xZExEx", "zelZEEEEEEEl", "Z.E.e.", "r.-+l"}
	everyScript(3, func(script string) { l = append(l, script) })
	return l
}

func TestLinesThatSayNothingMoveLines(t *testing.T) {
	nothing := []api.Line{{}, {Kind: -1}, {Kind: 6}, crowded([]api.Line{{}})[0]}
	for _, script := range lawful() {
		l := linesOf(script)
		d := document.Of(l)
		for i := range len(l) + 1 {
			for _, x := range nothing {
				what := fmt.Sprintf("%q, with a line of Kind %d put in at %d", script, x.Kind, i)
				same(t, what, document.Of(slices.Insert(slices.Clone(l), i, x)), moved(d, i, 1))
			}
			same(t, fmt.Sprintf("%q, with four lines put in at %d", script, i), document.Of(slices.Insert(slices.Clone(l), i, nothing...)), moved(d, i, 4))
		}
	}
}

func TestTextsThatSayNothingMoveLines(t *testing.T) {
	nothing := []string{"", " ", "\t\v\f", "#", "# Zone A 0 - X 2000", " #0 - X", "\r", " \r", "#\r", strings.Repeat(" ", 200), "#" + strings.Repeat(`"`, 199)}
	for _, script := range lawful() {
		l := textsOf(script)
		d := document.Parse(strings.Join(l, "\n"))
		if len(l) == 0 { // a text of no line has one all the same
			l = []string{""}
		}
		for i := range len(l) + 1 {
			for _, x := range nothing {
				s := strings.Join(slices.Insert(slices.Clone(l), i, x), "\n")
				same(t, fmt.Sprintf("Parse of %q, with %.9q put in at %d", script, x, i), document.Parse(s), moved(d, i, 1))
			}
			s := strings.Join(slices.Insert(slices.Clone(l), i, nothing...), "\n")
			same(t, fmt.Sprintf("Parse of %q, with all of them put in at %d", script, i), document.Parse(s), moved(d, i, len(nothing)))
		}
	}
}

// TestLinesThatSayNothingAmongManyEras: as above, about MaxEras, one by one between all lines.
func TestLinesThatSayNothingAmongManyEras(t *testing.T) {
	for n := range 12 {
		for _, end := range []string{"", "e", "r", "er", "Er", "Ee", "ze", "xl", "eE"} {
			script := "Z" + strings.Repeat("E", n) + end
			l, apart := linesOf(script), []api.Line{}
			want := document.Of(l)
			for i, x := range l {
				apart = append(apart, api.Line{}, x)
				want = moved(want, 2*i, 1)
			}
			same(t, fmt.Sprintf("%q, line by line apart", script), document.Of(apart), want)
		}
	}
}
