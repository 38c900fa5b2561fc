package graph_test

import (
	"fmt"
	"slices"
	"sort"
	"strings"
	"testing"

	"noonmark/api"
	"noonmark/document"
	"noonmark/graph"
	"noonmark/line"
	"noonmark/names"
)

// The model: what hangs on what, told from the words of the chapter, by the lines of the texts that the places of names lead to.

// world: texts of documents a, b, .., and the space of them.
type world struct {
	texts []string
	s     *names.Space
}

func of(t *testing.T, texts ...string) world {
	t.Helper()
	return world{texts, made(t, docs(texts...))}
}

func docs(texts ...string) []names.Doc {
	var l []names.Doc
	for i, s := range texts {
		l = append(l, names.Doc{Name: string(rune('a' + i)), D: document.Parse(s)})
	}
	return l
}

func made(t *testing.T, l []names.Doc) *names.Space {
	t.Helper()
	s, k := names.Make(l)
	if k != api.OK {
		t.Fatalf("Make: kind %d", int(k))
	}
	return s
}

// says: what the line at a place says.
func (w world) says(p names.Place) api.Line {
	return line.Parse(document.Lines(w.texts[p.Doc[0]-'a'])[p.Line])
}

// shown: the text of the line at a place.
func (w world) shown(p names.Place) string {
	s, _ := line.Show(w.says(p))
	return s
}

// erasAt: where the eras of a zone are.
func (w world) erasAt(zone string) []names.Place {
	z, first, ok := w.s.Zone(zone)
	var l []names.Place
	for _, n := range z.Lines {
		if ok {
			l = append(l, names.Place{Doc: first.Doc, Line: n})
		}
	}
	return l
}

func (w world) uses(zone string) []string {
	all := map[string]bool{}
	for _, p := range w.erasAt(zone) {
		if e := w.says(p).Era; e.Kind == 2 {
			all[e.Rules] = true
		}
	}
	return sorted(all)
}

func (w world) users(rule string) []string {
	all := map[string]bool{}
	for _, name := range w.s.Names() {
		if slices.Contains(w.uses(name), rule) {
			all[name] = true
		}
	}
	return sorted(all)
}

func (w world) linked(zone string) []string {
	all := map[string]bool{}
	for _, name := range w.s.Names() {
		if _, _, isLink := w.s.Link(name); !isLink {
			continue
		}
		if end, _, k := w.s.Resolve(name); k == api.OK && end == zone {
			all[name] = true
		}
	}
	return sorted(all)
}

func (w world) closure(name string) []string {
	zone, way, k := w.s.Resolve(name)
	if k != api.OK {
		return []string{map[api.Kind]string{12: "undefined", 13: "cycle"}[k]}
	}
	var l []string
	if w.s.Bad(name) {
		l = append(l, "bad")
	}
	for _, n := range way {
		if _, p, ok := w.s.Link(n); ok {
			l = append(l, w.shown(p))
		}
	}
	for _, p := range w.erasAt(zone) {
		l = append(l, w.shown(p))
	}
	for _, rule := range w.uses(zone) {
		_, places := w.s.Rules(rule)
		for _, p := range places {
			l = append(l, w.shown(p))
		}
	}
	return l
}

func changed(a, b world) []string {
	all := map[string]bool{}
	for _, name := range append(a.s.Names(), b.s.Names()...) {
		_, _, inA := a.s.Zone(name)
		_, _, inB := b.s.Zone(name)
		if inA != inB || inA && strings.Join(a.closure(name), "\n") != strings.Join(b.closure(name), "\n") {
			all[name] = true
		}
	}
	return sorted(all)
}

func sorted(all map[string]bool) []string {
	l := []string{}
	for s := range all {
		l = append(l, s)
	}
	sort.Strings(l)
	return l
}

// asked: all names that a world's lines speak of, and some that they may not.
func (w world) asked() []string {
	all := map[string]bool{"": true, "none": true, "A": true, "R": true, "a": true, "A ": true}
	for _, d := range docs(w.texts...) {
		for _, r := range d.D.Rules {
			all[r.R.Name] = true
		}
		for _, z := range d.D.Zones {
			all[z.Name] = true
			for _, e := range z.Eras {
				all[e.Rules] = true
			}
		}
		for _, x := range d.D.Links {
			all[x.Target], all[x.Name] = true, true
		}
	}
	return sorted(all)
}

// answers: all that is told of one space, of these names, as text.
func answers(s *names.Space, l []string) string {
	var b strings.Builder
	for _, name := range l {
		fmt.Fprintf(&b, "Uses %q: %q\nUsers %q: %q\n", name, graph.Uses(s, name), name, graph.Users(s, name))
		fmt.Fprintf(&b, "Linked %q: %q\nClosure %q: %q\n", name, graph.Linked(s, name), name, graph.Closure(s, name))
	}
	return b.String()
}

// modelAnswers: the same of the model.
func (w world) modelAnswers(l []string) string {
	var b strings.Builder
	for _, name := range l {
		fmt.Fprintf(&b, "Uses %q: %q\nUsers %q: %q\n", name, w.uses(name), name, w.users(name))
		fmt.Fprintf(&b, "Linked %q: %q\nClosure %q: %q\n", name, w.linked(name), name, w.closure(name))
	}
	return b.String()
}

// asTheModel stops at the first fault, since it is for long loops, too.
func (w world) asTheModel(t *testing.T, what string) {
	t.Helper()
	l := w.asked()
	got, want := strings.Split(answers(w.s, l), "\n"), strings.Split(w.modelAnswers(l), "\n")
	for i := range want {
		if got[i] != want[i] {
			t.Fatalf("%s: %s, not %s", what, got[i], want[i])
		}
	}
}

// changeAsTheModel holds Changed of two worlds, in both directions, against the model, and to the laws.
func changeAsTheModel(t *testing.T, what string, a, b world) {
	t.Helper()
	want := changed(a, b)
	for i, got := range [][]string{graph.Changed(a.s, b.s), graph.Changed(b.s, a.s)} {
		if fmt.Sprint(got) != fmt.Sprint(want) {
			t.Fatalf("%s, direction %d: %q has changed, not %q", what, i, got, want)
		}
	}
	for _, w := range []world{a, b} {
		if l := graph.Changed(w.s, w.s); len(l) != 0 {
			t.Fatalf("%s: from one space to itself %q has changed", what, l)
		}
	}
	for _, zone := range want {
		if a.own(zone) == b.own(zone) && a.used(zone) == b.used(zone) {
			t.Fatalf("%s: %s has changed, but neither it, nor what it uses", what, zone)
		}
	}
}

// state: what a line says, and whether something is wrong in it.
func (w world) state(p names.Place) string {
	for _, x := range w.s.Diags() {
		if x.Doc == p.Doc && x.Line == p.Line {
			return w.shown(p) + " wrong\n"
		}
	}
	return w.shown(p) + "\n"
}

// own: the lines of a zone.
func (w world) own(zone string) string {
	var all string
	for _, p := range w.erasAt(zone) {
		all += w.state(p)
	}
	return all
}

// used: all rules of the names that a zone uses, those too that are too many or last too long.
func (w world) used(zone string) string {
	var all string
	for _, name := range w.uses(zone) {
		all += name + ":\n"
		for i, s := range w.texts {
			for n, x := range document.Lines(s) {
				if l := line.Parse(x); l.Kind == 1 && l.Rule.Name == name {
					all += w.state(names.Place{Doc: string(rune('a' + i)), Line: n})
				}
			}
		}
	}
	return all
}

// spoil puts another value in each place of a list, and in the room behind it.
func spoil(l []string) {
	l = l[:cap(l)]
	for i := range l {
		l[i] = "spoilt"
	}
}

func is(t *testing.T, what string, got, want any) {
	t.Helper()
	if g, w := fmt.Sprint(got), fmt.Sprint(want); g != w {
		t.Errorf("%s: %s, not %s", short(what), short(g), short(w))
	}
}

func short(s string) string {
	if len(s) > 1000 {
		return s[:500] + " .. " + s[len(s)-500:]
	}
	return s
}

// empty: is each of the lists one without an element?
func empty(t *testing.T, what string, l ...[]string) {
	t.Helper()
	for i, x := range l {
		if len(x) != 0 {
			t.Errorf("%s: list %d is %q", what, i, x)
		}
	}
}
