// Package wire is layer 1: frames in a stream of bytes. See shared/doc/01-wire.md.
package wire

import (
	"bytes"
	"strconv"

	"noonmark/api"
)

// Item: a frame's bytes, or a bad place.
type Item struct {
	Bad bool
	B   []byte
}

// Splitter: of a stream that comes in pieces. Its zero value stands at a stream's begin.
type Splitter struct {
	self  *Splitter
	state state
	see   func(c byte) sight // what the next byte is, as the state tells it
	held  []byte             // from the begin of the frame on
	size  int                // of the frame, as far as its length is read
	left  int                // bytes of the frame that have not come
}

// state: what the next byte must be.
type state int

const (
	atBegin  state = iota // the first digit of a length
	atZero                // a : behind a 0
	atLength              // a further digit, or a :
	atBody                // a byte of the frame
	atEnd                 // a line feed behind the frame
	atWaste               // a byte that is left out
)

// sight: what is seen in a byte.
type sight int

const (
	nothing sight = iota
	whole
	bad
)

const maxDigits = 5

// Frame answers b as a frame.
func Frame(b []byte) ([]byte, api.Kind) {
	if len(b) > api.MaxFrame {
		return nil, api.TooLarge
	}
	f := make([]byte, 0, maxDigits+1+len(b)+1)
	f = strconv.AppendInt(f, int64(len(b)), 10)
	f = append(f, ':')
	f = append(f, b...)
	return append(f, '\n'), api.OK
}

// Split answers the items of a whole stream, and the bytes that are left.
func Split(b []byte) (items []Item, rest []byte) {
	s := New()
	items = s.Feed(b)
	return items, s.Rest()
}

// New answers a splitter that stands at a stream's begin.
func New() *Splitter {
	s := &Splitter{}
	s.own()
	return s
}

// Feed takes the stream's next piece, and answers the items that it makes whole.
func (s *Splitter) Feed(b []byte) []Item {
	if s == nil {
		return nil
	}
	s.own()
	var items []Item
	for _, c := range b {
		switch s.see(c) {
		case whole:
			items = append(items, Item{B: s.take()})
		case bad:
			items = append(items, Item{Bad: true})
		}
	}
	return items
}

// Rest answers the bytes that are left.
func (s *Splitter) Rest() []byte {
	if s == nil {
		return nil
	}
	return bytes.Clone(s.held)
}

// own readies a splitter that New did not make: a method value is bound to the one that it was taken of, so a copy would feed the splitter that it is a copy of.
func (s *Splitter) own() {
	if s.self == s {
		return
	}
	s.self = s
	s.held = bytes.Clone(s.held)
	s.enter(s.state)
}

func (s *Splitter) enter(st state) {
	s.state = st
	switch st {
	case atBegin:
		s.see = s.begin
	case atZero:
		s.see = s.zero
	case atLength:
		s.see = s.length
	case atBody:
		s.see = s.body
	case atEnd:
		s.see = s.end
	case atWaste:
		s.see = s.waste
	}
}

func (s *Splitter) begin(c byte) sight {
	if !isDigit(c) {
		return s.fail(c)
	}
	s.hold(c)
	s.size = int(c - '0')
	if c == '0' {
		s.enter(atZero)
	} else {
		s.enter(atLength)
	}
	return nothing
}

func (s *Splitter) zero(c byte) sight {
	if c != ':' {
		return s.fail(c)
	}
	return s.colon(c)
}

func (s *Splitter) length(c byte) sight {
	if c == ':' {
		return s.colon(c)
	}
	if !isDigit(c) || len(s.held) == maxDigits {
		return s.fail(c)
	}
	s.hold(c)
	s.size = s.size*10 + int(c-'0')
	return nothing
}

func (s *Splitter) colon(c byte) sight {
	if s.size > api.MaxFrame {
		return s.fail(c)
	}
	s.hold(c)
	s.left = s.size
	if s.left == 0 {
		s.enter(atEnd)
	} else {
		s.enter(atBody)
	}
	return nothing
}

func (s *Splitter) body(c byte) sight {
	s.hold(c)
	s.left--
	if s.left == 0 {
		s.enter(atEnd)
	}
	return nothing
}

func (s *Splitter) end(c byte) sight {
	if c != '\n' {
		return s.fail(c)
	}
	s.enter(atBegin)
	return whole
}

func (s *Splitter) waste(c byte) sight {
	if c == '\n' {
		s.enter(atBegin)
	}
	return nothing
}

// fail drops the frame that c can't belong to; c itself may be the line feed that ends what is left out.
func (s *Splitter) fail(c byte) sight {
	s.held = nil
	if c == '\n' {
		s.enter(atBegin)
	} else {
		s.enter(atWaste)
	}
	return bad
}

func (s *Splitter) hold(c byte) { s.held = append(s.held, c) }

// take answers the bytes of the frame that is held. A copy of the splitter may still hold the array behind them: it is neither handed out nor used again.
func (s *Splitter) take() []byte {
	b := bytes.Clone(s.held[len(s.held)-s.size:])
	s.held = nil
	return b
}

func isDigit(c byte) bool { return '0' <= c && c <= '9' }
