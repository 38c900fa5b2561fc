package rope

import (
	"math/rand"
	"strings"
	"testing"

	"noonmark/api"
)

// shapeIsRight: halves' heights differ by at most 1, counts are those of the bytes, no leaf is empty or too long.
func shapeIsRight(t *testing.T, n *node) {
	t.Helper()
	if n == nil {
		return
	}
	s := n.text(0, n.size)
	if n.size != len(s) || n.feeds != strings.Count(s, "\n") {
		t.Fatalf("%d bytes, %d line feeds are told of %q", n.size, n.feeds, s)
	}
	a, b := n.half[left], n.half[right]
	if a == nil && b == nil {
		if n.high != 1 || len(n.leaf) != n.size || n.size == 0 || n.size > maxLeaf {
			t.Fatalf("a leaf of %d bytes, height %d", n.size, n.high)
		}
		return
	}
	if a == nil || b == nil || n.leaf != "" {
		t.Fatal("a node with one half, or with halves and bytes of its own")
	}
	shapeIsRight(t, a)
	shapeIsRight(t, b)
	if d := a.high - b.high; d < -1 || d > 1 || n.high != 1+max(a.high, b.high) {
		t.Fatalf("height %d of %d and %d", n.high, a.high, b.high)
	}
}

// all: the nodes of n.
func all(n *node, seen map[*node]int) map[*node]int {
	if n != nil && seen[n] == 0 {
		seen[n] = n.high
		all(n.half[left], seen)
		all(n.half[right], seen)
	}
	return seen
}

func chanceText(chance *rand.Rand, most int) string {
	b := make([]byte, chance.Intn(most+1))
	for i := range b {
		b[i] = "abc\n"[chance.Intn(4)]
	}
	return string(b)
}

func TestShapeBehindChanges(t *testing.T) {
	for seed := range int64(12) {
		chance := rand.New(rand.NewSource(seed))
		r, _ := Make(chanceText(chance, api.MaxDoc))
		take, put := []int{3, 300, 3000}[seed%3], []int{3, 300, 30, 3000}[seed%4]
		for range 1500 {
			from := chance.Intn(r.Len() + 1)
			to := from + chance.Intn(min(r.Len()-from, take)+1)
			if n, k := r.Splice(from, to, chanceText(chance, put)); k == api.OK {
				r = n
			}
			if chance.Intn(10) == 0 {
				shapeIsRight(t, r.root)
			}
		}
		shapeIsRight(t, r.root)
	}
}

func TestJoinOfAnyHeights(t *testing.T) {
	chance := rand.New(rand.NewSource(9))
	for range 3000 {
		s, p := chanceText(chance, 1<<chance.Intn(14)), chanceText(chance, 1<<chance.Intn(14))
		a, b := nodeOf(s), nodeOf(p)
		n := join(a, b)
		shapeIsRight(t, n)
		if h := max(a.height(), b.height()); n.height() != h && n.height() != h+1 {
			t.Fatalf("height %d of %d and %d", n.height(), a.height(), b.height())
		}
		if n.text(0, n.bytes()) != s+p {
			t.Fatal("other bytes")
		}
	}
}

// TestRopesShareNodes: a change makes new nodes on the way to it only.
func TestRopesShareNodes(t *testing.T) {
	r, _ := Make(strings.Repeat("0123456789\n", 1800))
	for at := 0; at <= r.Len(); at += 97 {
		n, _ := r.Splice(at, at, "x")
		was := all(r.root, map[*node]int{})
		made := 0
		for x := range all(n.root, map[*node]int{}) {
			if was[x] == 0 {
				made++
			}
		}
		if made > 4*r.Height() {
			t.Errorf("a byte at %d: %d new nodes of %d", at, made, len(was))
		}
	}
}

// TestSmallLeavesMeet: what is left of a long text, byte by byte taken away anywhere, is no rope of tiny leaves.
func TestSmallLeavesMeet(t *testing.T) {
	for seed := range int64(8) {
		chance := rand.New(rand.NewSource(seed))
		r, _ := Make(chanceText(chance, 1) + strings.Repeat("x", api.MaxDoc-1))
		for r.Len() > 1000 {
			at := chance.Intn(r.Len())
			r, _ = r.Splice(at, at+1, "")
		}
		if n := len(all(r.root, map[*node]int{})); n > 30 {
			t.Errorf("%d nodes of 1000 bytes", n)
		}
	}
}

// TestEdgesMeet: a small node that is laid beside a high one becomes one with the leaf there, as long as that has room.
func TestEdgesMeet(t *testing.T) {
	high := nodeOf(strings.Repeat("x", 64*100))
	was := len(all(high, map[*node]int{}))
	for range maxLeaf - 100 {
		high = join(nodeOf("x"), join(high, nodeOf("x")))
	}
	if n := len(all(high, map[*node]int{})); n != was {
		t.Errorf("%d nodes, not %d", n, was)
	}
	if n := len(all(join(high, nodeOf("x")), map[*node]int{})); n <= was {
		t.Errorf("%d nodes, and a leaf above its limit", n)
	}
}
