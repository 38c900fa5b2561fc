package names

import (
	"cmp"
	"slices"
	"strings"

	"noonmark/api"
	"noonmark/document"
)

// What a name of zones and links stands for.
const (
	nothing = iota
	aZone
	aLink
)

// byRules: the kind of an era that goes by the rules of a name.
const byRules = 2

// thing: a zone, or a link.
type thing struct {
	kind   int
	name   string
	places []Place // of its lines: the first one is there
	zone   document.Zone
	target string
}

// group: the rules of a name, each with its place.
type group struct {
	rules  []api.Rule
	places []Place
	all    []Place // of those, too, that are too many, or last too long
}

// rise: do the documents' names rise by their bytes?
func rise(l []Doc) bool {
	for i := 1; i < len(l); i++ {
		if l[i-1].Name >= l[i].Name {
			return false
		}
	}
	return true
}

// define is the first pass: what a document's rules, zones and links are.
func (s *Space) define(d Doc) {
	for _, r := range byLines(d.D.Rules, func(r document.Rule) int { return r.Line }) {
		s.addRule(r.R, Place{d.Name, r.Line})
	}
	for _, x := range byLines(things(d), func(x thing) int { return x.places[0].Line }) {
		s.addThing(x)
	}
}

// check is the second pass: what is wrong in a document that was so ahead of it, and what its names stand for.
func (s *Space) check(d Doc) {
	for _, x := range d.D.Diags {
		x.Doc = d.Name
		s.diags = append(s.diags, x)
	}
	for _, z := range d.D.Zones {
		s.checkEras(d.Name, z)
	}
	for _, x := range d.D.Links {
		s.checkLink(Place{d.Name, x.Line}, x.Name)
	}
}

// byLines answers a list in the order of its lines. A document's parser hands them out so; others may not.
func byLines[T any](l []T, line func(T) int) []T {
	all := slices.Clone(l)
	slices.SortStableFunc(all, func(a, b T) int { return cmp.Compare(line(a), line(b)) })
	return all
}

// things answers the zones and links of a document.
func things(d Doc) []thing {
	var l []thing
	for _, z := range d.D.Zones {
		x := thing{kind: aZone, name: z.Name, zone: clone(z)}
		for _, n := range linesOf(z) {
			x.places = append(x.places, Place{d.Name, n})
		}
		l = append(l, x)
	}
	for _, x := range d.D.Links {
		l = append(l, thing{kind: aLink, name: x.Name, places: []Place{{d.Name, x.Line}}, target: x.Target})
	}
	return l
}

func clone(z document.Zone) document.Zone {
	return document.Zone{Name: z.Name, Eras: slices.Clone(z.Eras), Lines: slices.Clone(z.Lines)}
}

// linesOf answers the lines of a zone: one at least, and one for each era. What was handed in without one stands in line 0.
func linesOf(z document.Zone) []int {
	l := make([]int, max(1, len(z.Eras), len(z.Lines)))
	copy(l, z.Lines)
	return l
}

func (s *Space) addRule(r api.Rule, at Place) {
	g := s.groups[r.Name]
	g.all = append(g.all, at)
	switch {
	case lastsTooLong(r):
		s.tell(at, api.Range)
	case len(g.rules) >= api.MaxRules:
		s.tell(at, api.TooLarge)
	default:
		g.rules = append(g.rules, r)
		g.places = append(g.places, at)
	}
	s.groups[r.Name] = g
}

// lastsTooLong: years may be any numbers, and their difference is in the range of one without a sign alone.
func lastsTooLong(r api.Rule) bool {
	return r.To != api.Endless && r.To > r.From && uint(r.To)-uint(r.From) > api.MaxSpan
}

func (s *Space) addThing(x thing) {
	if _, ok := s.things[x.name]; ok {
		s.tell(x.places[0], api.Duplicate)
		return
	}
	s.things[x.name] = x
}

// checkEras tells of eras whose rules' name has no rule.
func (s *Space) checkEras(doc string, z document.Zone) {
	lines := linesOf(z)
	for i, e := range z.Eras {
		if e.Kind == byRules && len(s.groups[e.Rules].rules) == 0 {
			s.tell(Place{doc, lines[i]}, api.Undefined)
		}
	}
}

// checkLink tells where a link leads, if it is the one that its name stands for.
func (s *Space) checkLink(at Place, name string) {
	x := s.things[name]
	if x.kind != aLink || x.places[0] != at {
		return
	}
	if k := s.end(name); k != api.OK {
		s.tell(at, k)
	}
}

// end answers Resolve's kind of a name, and keeps it for all names on the way: each is gone through once.
func (s *Space) end(name string) api.Kind {
	var way []string
	k, told := s.ends[name]
	for !told {
		x := s.things[name]
		if x.kind != aLink {
			k = endOf(x)
			break
		}
		s.ends[name] = api.Cycle // what a way that comes back here is to find
		way = append(way, name)
		name = x.target
		k, told = s.ends[name]
	}
	for _, n := range way {
		s.ends[n] = k
	}
	return k
}

// endOf answers the kind of a way that ends here.
func endOf(x thing) api.Kind {
	if x.kind == nothing {
		return api.Undefined
	}
	return api.OK
}

func (s *Space) tell(at Place, k api.Kind) {
	s.diags = append(s.diags, api.Diag{Doc: at.Doc, Line: at.Line, K: k})
}

// order puts the diags in order, each once, and keeps where they stand.
func (s *Space) order() {
	slices.SortFunc(s.diags, func(a, b api.Diag) int {
		return cmp.Or(strings.Compare(a.Doc, b.Doc), cmp.Compare(a.Line, b.Line), cmp.Compare(a.Col, b.Col), cmp.Compare(a.K, b.K))
	})
	s.diags = slices.Compact(s.diags)
	for _, x := range s.diags {
		s.wrong[Place{x.Doc, x.Line}] = struct{}{}
	}
}
