package footer

import (
	"strconv"
	"strings"

	"noonmark/api"
)

const (
	minute = 60 // seconds
	hour   = 60 * minute
)

// What a text does not tell.
const (
	usualShift = hour     // from Off to DOff
	usualSec   = 2 * hour // of an edge
)

// mostDigits: of a number in a text.
const mostDigits = 3

// Show answers the text of a spec.
func Show(s Spec) (string, api.Kind) {
	if !Right(s) {
		return "", api.BadArg
	}
	w := &writer{}
	w.name(s.Std)
	w.seconds(-s.Off)
	if s.Dst == "" {
		return w.String(), api.OK
	}
	w.name(s.Dst)
	if s.DOff != s.Off+usualShift {
		w.seconds(-s.DOff)
	}
	w.edge(s.Start)
	w.edge(s.End)
	return w.String(), api.OK
}

// Parse answers the spec whose text t is.
func Parse(t string) (s Spec, k api.Kind) {
	defer func() {
		if p := recover(); p != nil {
			k = p.(api.Kind)
		}
	}()
	return (&reader{left: t}).whole(), api.OK
}

// writer: of a spec's text.
type writer struct{ strings.Builder }

func (w *writer) put(parts ...string) {
	for _, s := range parts {
		w.WriteString(s)
	}
}

func (w *writer) name(s string) {
	if letters(s) == len(s) {
		w.put(s)
		return
	}
	w.put("<", s, ">")
}

func (w *writer) seconds(n int) {
	if n < 0 {
		w.put("-")
		n = -n
	}
	w.put(strconv.Itoa(n / hour))
	if n%hour != 0 {
		w.put(":", twoDigits(n%hour/minute))
	}
	if n%minute != 0 {
		w.put(":", twoDigits(n%minute))
	}
}

func (w *writer) edge(e Edge) {
	put := w.weekly
	if e.Fixed {
		put = w.fixed
	}
	put(e)
	if e.Sec != usualSec {
		w.put("/")
		w.seconds(e.Sec)
	}
}

func (w *writer) fixed(e Edge) { w.put(",J", strconv.Itoa(e.Day)) }

func (w *writer) weekly(e Edge) {
	w.put(",M", strconv.Itoa(e.Month), ".", strconv.Itoa(e.Week), ".", strconv.Itoa(e.Day))
}

func twoDigits(n int) string { return string([]byte{byte('0' + n/10), byte('0' + n%10)}) }

// letters answers how many letters s begins with.
func letters(s string) int {
	n := 0
	for n < len(s) && letter(s[n]) {
		n++
	}
	return n
}

func letter(c byte) bool { return 'a' <= c && c <= 'z' || 'A' <= c && c <= 'Z' }

// reader: of what is left of a text. Its methods panic with a kind where the text is wrong.
type reader struct{ left string }

// whole takes all of a spec's text. Numbers and names could be written in other ways too, which none of the methods refuses: just the way in which Show writes them is right.
func (r *reader) whole() Spec {
	t := r.left
	s := r.spec()
	if shown, _ := Show(s); shown != t {
		panic(api.Syntax)
	}
	return s
}

func (r *reader) spec() Spec {
	s := Spec{Std: r.name(), Off: -r.seconds()}
	if r.left == "" {
		return s
	}
	s.Dst, s.DOff = r.name(), s.Off+usualShift
	if !r.takes(',') {
		s.DOff = -r.seconds()
		r.need(',')
	}
	s.Start = r.edge()
	r.need(',')
	s.End = r.edge()
	return s
}

func (r *reader) name() string {
	if !r.takes('<') {
		return r.cut(letters(r.left))
	}
	name := r.cut(max(0, strings.IndexByte(r.left, '>')))
	r.need('>')
	return name
}

func (r *reader) seconds() int {
	if r.takes('-') {
		return -r.parts()
	}
	return r.parts()
}

// parts takes hours, and minutes and seconds if they are there.
func (r *reader) parts() int {
	n := r.number() * hour
	for _, size := range [2]int{minute, 1} {
		if !r.takes(':') {
			return n
		}
		n += r.number() * size
	}
	return n
}

func (r *reader) edge() Edge {
	tell := r.weekly
	if r.takes('J') {
		tell = r.fixed
	}
	e := tell()
	e.Sec = usualSec
	if r.takes('/') {
		e.Sec = r.seconds()
	}
	return e
}

func (r *reader) fixed() Edge { return Edge{Fixed: true, Day: r.number()} }

func (r *reader) weekly() Edge {
	r.need('M')
	month := r.number()
	r.need('.')
	week := r.number()
	r.need('.')
	return Edge{Day: r.number(), Month: month, Week: week}
}

// number takes digits, no more of them than a spec's numbers have.
func (r *reader) number() int {
	digits := r.left[:min(len(r.left), mostDigits)]
	rest := strings.TrimLeft(digits, "0123456789")
	n, err := strconv.Atoi(r.cut(len(digits) - len(rest)))
	if err != nil {
		panic(api.Syntax)
	}
	return n
}

// cut takes so many bytes.
func (r *reader) cut(n int) string {
	s := r.left[:n]
	r.left = r.left[n:]
	return s
}

// takes: does c come next? If so, it is taken.
func (r *reader) takes(c byte) bool {
	if r.left == "" || r.left[0] != c {
		return false
	}
	r.left = r.left[1:]
	return true
}

func (r *reader) need(c byte) {
	if !r.takes(c) {
		panic(api.Syntax)
	}
}
