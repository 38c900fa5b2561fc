package names_test

import (
	"fmt"
	"reflect"
	"slices"
	"sort"
	"strings"
	"testing"

	"noonmark/api"
	"noonmark/document"
	"noonmark/names"
)

// The model: what a space answers, told from the words of the chapter, each answer from the documents alone.

// item: a zone, or a link, of a document.
type item struct {
	zone  *document.Zone
	link  *document.Link
	name  string
	doc   string
	lines []int
}

func (x item) place() names.Place { return names.Place{Doc: x.doc, Line: x.lines[0]} }

// items: the zones and links of all documents, in order. (Of zones, each era has its line.)
func items(l []names.Doc) []item {
	var all []item
	for _, d := range l {
		var own []item
		for i := range d.D.Zones {
			z := &d.D.Zones[i]
			own = append(own, item{zone: z, name: z.Name, doc: d.Name, lines: z.Lines})
		}
		for i := range d.D.Links {
			x := &d.D.Links[i]
			own = append(own, item{link: x, name: x.Name, doc: d.Name, lines: []int{x.Line}})
		}
		sort.SliceStable(own, func(i, j int) bool { return own[i].lines[0] < own[j].lines[0] })
		all = append(all, own...)
	}
	return all
}

// standsFor: the first zone, or link, of a name.
func standsFor(l []names.Doc, name string) (item, bool) {
	for _, x := range items(l) {
		if x.name == name {
			return x, true
		}
	}
	return item{}, false
}

// placed: a rule, its place, and what is wrong with it as one of its name's.
type placed struct {
	r  api.Rule
	at names.Place
	k  api.Kind
}

// rulesOf: all rules of a name, in order.
func rulesOf(l []names.Doc, name string) []placed {
	var all []placed
	n := 0
	for _, d := range l {
		own := slices.Clone(d.D.Rules)
		sort.SliceStable(own, func(i, j int) bool { return own[i].Line < own[j].Line })
		for _, r := range own {
			if r.R.Name != name {
				continue
			}
			p := placed{r: r.R, at: names.Place{Doc: d.Name, Line: r.Line}}
			switch {
			case r.R.To != 10000 && r.R.To-r.R.From > 150:
				p.k = 2
			case n == 24:
				p.k = 17
			default:
				n++
			}
			all = append(all, p)
		}
	}
	return all
}

func countRight(l []placed) int {
	n := 0
	for _, p := range l {
		if p.k == 0 {
			n++
		}
	}
	return n
}

// resolved: what a name comes to.
func resolved(l []names.Doc, name string) (string, []string, api.Kind) {
	way := []string{}
	for {
		x, ok := standsFor(l, name)
		if !ok {
			return "", nil, 12
		}
		if slices.Contains(way, name) {
			return "", nil, 13
		}
		way = append(way, name)
		if x.zone != nil {
			return name, way, 0
		}
		name = x.link.Target
	}
}

// diagsOf: what is wrong in all documents, sorted, each once.
func diagsOf(l []names.Doc) []api.Diag {
	var all []api.Diag
	tell := func(doc string, line int, k api.Kind) { all = append(all, api.Diag{Doc: doc, Line: line, K: k}) }
	for _, d := range l {
		for _, x := range d.D.Diags {
			all = append(all, api.Diag{Doc: d.Name, Line: x.Line, Col: x.Col, K: x.K})
		}
		for _, r := range d.D.Rules {
			for _, p := range rulesOf(l, r.R.Name) {
				if p.k != 0 {
					tell(p.at.Doc, p.at.Line, p.k)
				}
			}
		}
	}
	for _, x := range items(l) {
		first, _ := standsFor(l, x.name)
		if first.zone != x.zone || first.link != x.link {
			tell(x.doc, x.lines[0], 11)
		} else if _, _, k := resolved(l, x.name); x.link != nil && k != 0 {
			tell(x.doc, x.lines[0], k)
		}
		if x.zone == nil {
			continue
		}
		for i, e := range x.zone.Eras {
			if e.Kind == 2 && countRight(rulesOf(l, e.Rules)) == 0 {
				tell(x.doc, x.lines[i], 12)
			}
		}
	}
	sort.Slice(all, func(i, j int) bool {
		a, b := all[i], all[j]
		switch {
		case a.Doc != b.Doc:
			return a.Doc < b.Doc
		case a.Line != b.Line:
			return a.Line < b.Line
		case a.Col != b.Col:
			return a.Col < b.Col
		}
		return a.K < b.K
	})
	return slices.Compact(all)
}

// bad: is something wrong with what a name hangs on?
func bad(l []names.Doc, name string) bool {
	_, way, k := resolved(l, name)
	if k != 0 {
		return true
	}
	var lines []names.Place
	for _, n := range way {
		x, _ := standsFor(l, n)
		for _, i := range x.lines {
			lines = append(lines, names.Place{Doc: x.doc, Line: i})
		}
		if x.zone == nil {
			continue
		}
		for _, e := range x.zone.Eras {
			if e.Kind != 2 {
				continue
			}
			for _, p := range rulesOf(l, e.Rules) {
				lines = append(lines, p.at)
			}
		}
	}
	for _, x := range diagsOf(l) {
		if slices.Contains(lines, names.Place{Doc: x.Doc, Line: x.Line}) {
			return true
		}
	}
	return false
}

// asked: all names that documents speak of, sorted, and some that they may not.
func asked(l []names.Doc) []string {
	all := []string{"", "A", "R", "none", "a", "A "}
	for _, d := range l {
		for _, r := range d.D.Rules {
			all = append(all, r.R.Name)
		}
		for _, z := range d.D.Zones {
			all = append(all, z.Name)
			for _, e := range z.Eras {
				all = append(all, e.Rules)
			}
		}
		for _, x := range d.D.Links {
			all = append(all, x.Target, x.Name)
		}
	}
	slices.Sort(all)
	return slices.Compact(all)
}

// answers: all that a space answers, of these names, as text.
func answers(s *names.Space, l []string) string {
	var b strings.Builder
	fmt.Fprintf(&b, "Names %q\nDiags %v\n", s.Names(), s.Diags())
	for _, name := range l {
		z, at, ok := s.Zone(name)
		fmt.Fprintf(&b, "Zone %q: %+v %v %v\n", name, z, at, ok)
		target, at, ok := s.Link(name)
		fmt.Fprintf(&b, "Link %q: %q %v %v\n", name, target, at, ok)
		rules, places := s.Rules(name)
		fmt.Fprintf(&b, "Rules %q: %+v %v\n", name, rules, places)
		end, way, k := s.Resolve(name)
		fmt.Fprintf(&b, "Resolve %q: %q %q %d\n", name, end, way, int(k))
		fmt.Fprintf(&b, "Bad %q: %v\n", name, s.Bad(name))
	}
	return b.String()
}

// modelAnswers: the same of the model.
func modelAnswers(l []names.Doc, asked []string) string {
	var b strings.Builder
	var all []string
	for _, x := range items(l) {
		all = append(all, x.name)
	}
	slices.Sort(all)
	fmt.Fprintf(&b, "Names %q\nDiags %v\n", slices.Compact(all), diagsOf(l))
	for _, name := range asked {
		var z document.Zone
		var target string
		var zoneAt, linkAt names.Place
		x, ok := standsFor(l, name)
		if ok && x.zone != nil {
			z, zoneAt = *x.zone, x.place()
		} else if ok {
			target, linkAt = x.link.Target, x.place()
		}
		fmt.Fprintf(&b, "Zone %q: %+v %v %v\n", name, z, zoneAt, x.zone != nil)
		fmt.Fprintf(&b, "Link %q: %q %v %v\n", name, target, linkAt, x.link != nil)
		var rules []api.Rule
		var places []names.Place
		for _, p := range rulesOf(l, name) {
			if p.k == 0 {
				rules, places = append(rules, p.r), append(places, p.at)
			}
		}
		fmt.Fprintf(&b, "Rules %q: %+v %v\n", name, rules, places)
		end, way, k := resolved(l, name)
		fmt.Fprintf(&b, "Resolve %q: %q %q %d\n", name, end, way, int(k))
		fmt.Fprintf(&b, "Bad %q: %v\n", name, bad(l, name))
	}
	return b.String()
}

// asTheModel stops at the first fault, since it is for long loops, too.
func asTheModel(t *testing.T, what string, l []names.Doc) {
	t.Helper()
	s, k := names.Make(l)
	if k != api.OK || s == nil {
		t.Fatalf("Make of %s: kind %d", what, int(k))
	}
	of := asked(l)
	got, want := strings.Split(answers(s, of), "\n"), strings.Split(modelAnswers(l, of), "\n")
	for i := range want {
		if got[i] != want[i] {
			t.Fatalf("%s: %s, not %s", what, got[i], want[i])
		}
	}
}

// copyOf: the same documents, in memory of their own, with room behind each list.
func copyOf(l []names.Doc) []names.Doc {
	all := roomy(l)
	for i, d := range all {
		all[i].D = document.Doc{Rules: roomy(d.D.Rules), Zones: roomy(d.D.Zones), Links: roomy(d.D.Links), Diags: roomy(d.D.Diags)}
		for j, z := range all[i].D.Zones {
			all[i].D.Zones[j] = document.Zone{Name: z.Name, Eras: roomy(z.Eras), Lines: roomy(z.Lines)}
		}
	}
	return all
}

func roomy[T any](l []T) []T {
	return append(make([]T, 0, len(l)+3), l...)
}

// wholeOf: what stands in documents, the room behind each list, too.
func wholeOf(l []names.Doc) string {
	all := slices.Clone(l[:cap(l)])
	for i, d := range all {
		x := document.Doc{Rules: d.D.Rules[:cap(d.D.Rules)], Zones: slices.Clone(d.D.Zones[:cap(d.D.Zones)]), Links: d.D.Links[:cap(d.D.Links)], Diags: d.D.Diags[:cap(d.D.Diags)]}
		for j, z := range x.Zones {
			x.Zones[j] = document.Zone{Name: z.Name, Eras: z.Eras[:cap(z.Eras)], Lines: z.Lines[:cap(z.Lines)]}
		}
		all[i].D = x
	}
	return fmt.Sprintf("%+v", all)
}

// spoil puts another value in each place of a list, and in the room behind it.
func spoil[T any](l []T, x T) {
	l = l[:cap(l)]
	for i := range l {
		l[i] = x
	}
}

func is(t *testing.T, what string, got, want any) {
	t.Helper()
	if g, w := fmt.Sprint(got), fmt.Sprint(want); g != w {
		t.Errorf("%s: %s, not %s", short(what), short(g), short(w))
	}
}

func short(s string) string {
	if len(s) > 400 {
		return s[:200] + " .. " + s[len(s)-200:]
	}
	return s
}

// zero: is what was answered the zero value of its type, or a list without an element?
func zero(t *testing.T, what string, l ...any) {
	t.Helper()
	for i, x := range l {
		v := reflect.ValueOf(x)
		if v.Kind() == reflect.Slice && v.Len() == 0 || v.IsZero() {
			continue
		}
		t.Errorf("%s: result %d is %+v", what, i, x)
	}
}
