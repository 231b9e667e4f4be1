package tests

import (
	"bytes"
	"fmt"
	"math/bits"
	"slices"
	"testing"

	"loop.example/g00790/impl"
)

// P7 for chapter 7: the root of a tree combines the roots of its first part and
// of the rest.

// checkParts checks that the root of l combines those of its two parts, and so on for the parts.
func checkParts(t *testing.T, what string, l [][]byte) {
	t.Helper()
	if len(l) < 2 {
		return
	}
	k := impl.SplitAt(len(l))
	if k < 1 || k >= len(l) {
		t.Fatalf("%s: SplitAt(%d) = %d", what, len(l), k)
	}
	first, rest := impl.TreeRoot(l[:k]), impl.TreeRoot(l[k:])
	checkHash(t, fmt.Sprintf("%s: %d leaves from %d", what, len(l), k), impl.TreeRoot(l), impl.NodeHash(first, rest))
	checkParts(t, what, l[:k])
	checkParts(t, what, l[k:])
}

func TestRootCombinesItsParts(t *testing.T) {
	for n := range 70 {
		for name, l := range someLists(n) {
			checkParts(t, name, l)
		}
	}
	for _, n := range []int{127, 128, 129, 255, 256, 257, 1000, 1025} {
		checkParts(t, "many leaves", numbered(n))
	}
}

func TestRootOfNoneAndOne(t *testing.T) {
	checkHash(t, "no leaf", impl.TreeRoot(nil), impl.Sha(nil))
	for _, x := range someParts() {
		checkHash(t, fmt.Sprintf("the only leaf %v", x), impl.TreeRoot([][]byte{x}), impl.LeafHash(x))
	}
}

// drawnRoots combine leaves as the trees of chapter 7 are drawn, node by node.
func drawnRoots(l [][]byte) [][]byte {
	h := make([][]byte, 9)
	for i := range h {
		h[i] = impl.LeafHash(l[i])
	}
	node := impl.NodeHash
	four := node(node(h[0], h[1]), node(h[2], h[3]))
	eight := node(four, node(node(h[4], h[5]), node(h[6], h[7])))
	return [][]byte{
		impl.Sha(nil),
		h[0],
		node(h[0], h[1]),
		node(node(h[0], h[1]), h[2]),
		four,
		node(four, h[4]),
		node(four, node(h[4], h[5])),
		node(four, node(node(h[4], h[5]), h[6])),
		eight,
		node(eight, h[8]),
	}
}

func TestDrawnTrees(t *testing.T) {
	for name, l := range someLists(9) {
		for n, want := range drawnRoots(l) {
			checkHash(t, fmt.Sprintf("%d leaves, %s", n, name), impl.TreeRoot(l[:n]), want)
		}
	}
}

// Every tree is a sequence of perfect ones, the largest first. Their roots are
// combined from the last one on.
func TestRootCombinesPerfectTrees(t *testing.T) {
	for n := 1; n < 200; n++ {
		l := numbered(n)
		var roots [][]byte
		for rest := l; len(rest) > 0; {
			size := 1 << (bits.Len(uint(len(rest))) - 1)
			roots = append(roots, impl.TreeRoot(rest[:size]))
			rest = rest[size:]
		}
		v := roots[len(roots)-1]
		for _, r := range slices.Backward(roots[:len(roots)-1]) {
			v = impl.NodeHash(r, v)
		}
		checkHash(t, fmt.Sprintf("%d leaves of perfect trees", n), impl.TreeRoot(l), v)
	}
}

// A cut at any other place leads to another root, and so do the parts exchanged.
func TestRootCombinesNoOtherParts(t *testing.T) {
	for n := 2; n < 40; n++ {
		l := numbered(n)
		root := impl.TreeRoot(l)
		for cut := range n + 1 {
			first, rest := impl.TreeRoot(l[:cut]), impl.TreeRoot(l[cut:])
			if same := bytes.Equal(impl.NodeHash(first, rest), root); same != (cut == impl.SplitAt(n)) {
				t.Errorf("%d leaves cut at %d: the same root: %v", n, cut, same)
			}
			if bytes.Equal(impl.NodeHash(rest, first), root) {
				t.Errorf("%d leaves cut at %d: the parts exchanged have the root of the whole", n, cut)
			}
		}
	}
}

// checkApart reports lists with the same root; all of them should have different ones.
func checkApart(t *testing.T, what string, lists [][][]byte) {
	t.Helper()
	seen := map[string]int{}
	for i, l := range lists {
		root := string(impl.TreeRoot(l))
		if j, ok := seen[root]; ok {
			t.Errorf("%s: lists %d and %d, of %d and %d leaves, have one root", what, j, i, len(lists[j]), len(l))
		}
		seen[root] = i
	}
}

// The number of leaves counts, also if they are equal or empty: no leaf is
// repeated to fill a level.
func TestRootTellsLengthsApart(t *testing.T) {
	for name, l := range someLists(70) {
		var prefixes [][][]byte
		for n := range len(l) + 1 {
			prefixes = append(prefixes, l[:n])
		}
		checkApart(t, name, prefixes)
	}
	for n := 1; n < 40; n++ {
		l := numbered(n)
		lists := [][][]byte{l, append(slices.Clone(l), l[n-1]), append(slices.Clone(l), nil), append([][]byte{nil}, l...)}
		if n > 1 {
			lists = append(lists, l[1:], slices.Concat(l, l))
		}
		checkApart(t, fmt.Sprintf("%d leaves and more", n), lists)
	}
}

func TestChangedLeafChangesRoot(t *testing.T) {
	for _, n := range []int{1, 2, 3, 4, 5, 7, 8, 9, 17} {
		l := numbered(n)
		lists := [][][]byte{l}
		for i := range l {
			for at := range l[i] {
				changed := deepClone(l)
				changed[i][at] ^= 128
				lists = append(lists, changed)
			}
			longer, empty := deepClone(l), deepClone(l)
			longer[i], empty[i] = append(longer[i], 0), nil
			lists = append(lists, longer, empty)
		}
		checkApart(t, fmt.Sprintf("%d leaves, one changed", n), lists)
	}
}

func TestOrderOfLeaves(t *testing.T) {
	for _, n := range []int{2, 3, 4, 5, 7, 8, 9, 17} {
		l := numbered(n)
		lists := [][][]byte{l}
		for i := range l {
			for j := range i {
				changed := slices.Clone(l)
				changed[i], changed[j] = l[j], l[i]
				lists = append(lists, changed)
			}
		}
		checkApart(t, fmt.Sprintf("%d leaves, two exchanged", n), lists)
	}
}

// The marks tell leaves from nodes: a leaf that holds the two hashes below a node
// has not its hash, and a tree of roots has not the root of their leaves.
func TestLeavesAreNoNodes(t *testing.T) {
	for _, a := range someParts() {
		for _, b := range [][]byte{nil, {0}, goHash(0), a} {
			both := slices.Concat(a, b)
			if bytes.Equal(impl.LeafHash(both), impl.NodeHash(a, b)) {
				t.Errorf("the leaf %v has the hash of a node", both)
			}
		}
	}
	for n := 2; n < 20; n++ {
		l := numbered(n)
		k := impl.SplitAt(n)
		first, rest := impl.TreeRoot(l[:k]), impl.TreeRoot(l[k:])
		both := slices.Concat(first, rest)
		checkApart(t, fmt.Sprintf("%d leaves and their hashes", n), [][][]byte{
			l, {first, rest}, {both}, {slices.Concat([]byte{1}, both)}, {slices.Concat([]byte{0}, both)}, {impl.TreeRoot(l)},
		})
	}
}

// Where a leaf ends matters, in the list and in the tree.
func TestLeavesAreNotJoined(t *testing.T) {
	checkApart(t, "three bytes in leaves", [][][]byte{
		{{1, 2, 3}}, {{1, 2}, {3}}, {{1}, {2, 3}}, {{1}, {2}, {3}}, {{1, 2, 3}, nil}, {nil, {1, 2, 3}},
		{{1}, nil, {2, 3}}, {{1, 2}, nil, {3}}, {nil, {1}, {2}, {3}}, {{1}, {2}, {3}, nil}, nil, {nil},
	})
}
