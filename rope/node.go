package rope

import "strings"

// node: bytes in a row: those of a leaf, or those of both halves. It is never changed, since ropes share it. Without a byte there is none: nil.
type node struct {
	half  [2]*node
	leaf  string // bytes, if there are no halves
	size  int    // bytes in all
	feeds int    // line feeds in all
	high  int    // 1 of a leaf, else 1 more than the higher half; the halves' differ by at most 1
}

const maxLeaf = 128

const (
	left  = 0
	right = 1
)

func (n *node) bytes() int {
	if n == nil {
		return 0
	}
	return n.size
}

func (n *node) breaks() int {
	if n == nil {
		return 0
	}
	return n.feeds
}

func (n *node) height() int {
	if n == nil {
		return 0
	}
	return n.high
}

// nodeOf answers a node of s. A leaf has memory of its own, so that it keeps neither what was handed in nor a longer text around it.
func nodeOf(s string) *node {
	if s == "" {
		return nil
	}
	if len(s) > maxLeaf {
		mid := len(s) / 2
		return join(nodeOf(s[:mid]), nodeOf(s[mid:]))
	}
	return &node{leaf: strings.Clone(s), size: len(s), feeds: strings.Count(s, "\n"), high: 1}
}

// pair answers a node of two halves whose heights differ by at most 1.
func pair(half [2]*node) *node {
	return &node{
		half:  half,
		size:  sum(half, (*node).bytes),
		feeds: sum(half, (*node).breaks),
		high:  1 + max(half[left].high, half[right].high),
	}
}

func sum(half [2]*node, count func(*node) int) int {
	return count(half[left]) + count(half[right])
}

// join lays two nodes together. It goes down the higher one until both are as high, though the heights could differ by 1: so a small leaf meets the leaf next to it.
func join(a, b *node) *node {
	switch {
	case a == nil:
		return b
	case b == nil:
		return a
	case a.high > b.high:
		return even([2]*node{a.half[left], join(a.half[right], b)})
	case a.high < b.high:
		return even([2]*node{join(a, b.half[left]), b.half[right]})
	case a.high == 1 && a.size+b.size <= maxLeaf:
		return nodeOf(a.leaf + b.leaf)
	}
	return pair([2]*node{a, b})
}

// even answers a node of two halves whose heights differ by at most 2, which is all that join makes.
func even(half [2]*node) *node {
	for side := range half {
		if half[side].high == half[1-side].high+2 {
			return turn(half, side)
		}
	}
	return pair(half)
}

// turn answers a node of two halves, of which that of a side is higher by 2: it gives some of its own to the other one.
func turn(half [2]*node, side int) *node {
	low := half[1-side]
	inner, outer := half[side].half[1-side], half[side].half[side]
	if inner.high <= outer.high {
		return pair(halves(side, outer, pair(halves(side, inner, low))))
	}
	near, far := inner.half[1-side], inner.half[side]
	return pair(halves(side, pair(halves(side, outer, far)), pair(halves(side, near, low))))
}

// halves answers two nodes, the first one at that side.
func halves(side int, n, other *node) [2]*node {
	var half [2]*node
	half[side], half[1-side] = n, other
	return half
}

// replace answers a node with s in the place of the bytes from from on, below to.
func replace(n *node, from, to int, s string) *node {
	if n.height() <= 1 {
		text := n.text(0, n.bytes())
		return nodeOf(text[:from] + s + text[to:])
	}
	a, b := n.half[left], n.half[right]
	switch {
	case to <= a.size:
		return join(replace(a, from, to, s), b)
	case from >= a.size:
		return join(a, replace(b, from-a.size, to-a.size, s))
	}
	return join(replace(a, from, a.size, s), replace(b, 0, to-a.size, ""))
}

// text answers the bytes from from on, below to, in memory of their own.
func (n *node) text(from, to int) string {
	var b strings.Builder
	b.Grow(to - from)
	n.write(&b, from, to)
	return b.String()
}

func (n *node) write(b *strings.Builder, from, to int) {
	if from == to {
		return
	}
	if n.high == 1 {
		b.WriteString(n.leaf[from:to])
		return
	}
	mid := n.half[left].size
	if from < mid {
		n.half[left].write(b, from, min(to, mid))
	}
	if to > mid {
		n.half[right].write(b, max(from, mid)-mid, to-mid)
	}
}

// seek goes down to the leaf that has the at-th one of what by counts, and answers also its number in that leaf, and how many of what other counts are ahead of the leaf.
func seek(n *node, at int, by, other func(*node) int) (leaf *node, rest, ahead int) {
	for n.height() > 1 {
		a := n.half[left]
		if at <= by(a) {
			n = a
			continue
		}
		at -= by(a)
		ahead += other(a)
		n = n.half[right]
	}
	return n, at, ahead
}

// breaksIn answers how many line feeds are in the first bytes of a leaf.
func (n *node) breaksIn(bytes int) int {
	if n == nil {
		return 0
	}
	return strings.Count(n.leaf[:bytes], "\n")
}

// behindBreak answers how many bytes of a leaf stand up to its i-th line feed, with it.
func (n *node) behindBreak(i int) int {
	at := 0
	for range i {
		at += strings.IndexByte(n.leaf[at:], '\n') + 1
	}
	return at
}
