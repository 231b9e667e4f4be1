package tests

import (
	"bytes"
	"fmt"
	"slices"
	"testing"

	"loop.example/g00790/impl"
)

// P7 for chapter 8: the incremental tree has the root of the whole tree.

// checkWhole checks that s is the incremental tree of l: each of its subtrees is
// the tree of its own leaves, and all of them together that of l.
func checkWhole(t *testing.T, what string, s impl.Stack, ok bool, l [][]byte) {
	t.Helper()
	what = fmt.Sprintf("%s, %d leaves", what, len(l))
	if !ok || !impl.StackOk(s) {
		t.Errorf("%s: no valid stack, but %v, %v", what, s, ok)
		return
	}
	if size := impl.StackSize(s); size != len(l) {
		t.Errorf("%s: StackSize is %d", what, size)
	}
	checkHash(t, what+": StackRoot", impl.StackRoot(s), impl.TreeRoot(l))
	if !slices.Equal(s.Heights, heightsOf(len(l))) {
		t.Errorf("%s: the heights are %v", what, s.Heights)
		return
	}
	rest := l
	for i, height := range s.Heights {
		checkHash(t, fmt.Sprintf("%s: subtree %d", what, i), s.Hashes[i], impl.TreeRoot(rest[:1<<height]))
		rest = rest[1<<height:]
	}
}

// pushAll pushes leaves one by one.
func pushAll(t *testing.T, s impl.Stack, l [][]byte) impl.Stack {
	t.Helper()
	for i, x := range l {
		pushed, ok := impl.StackPush(s, impl.LeafHash(x))
		if !ok {
			t.Fatalf("leaf %d of %d can not be pushed onto %v", i, len(l), s.Heights)
		}
		s = pushed
	}
	return s
}

func TestStackIsWholeTree(t *testing.T) {
	for n := range 70 {
		for name, l := range someLists(n) {
			s, ok := impl.StackOf(l)
			checkWhole(t, name, s, ok, l)
		}
	}
	for _, n := range []int{127, 128, 129, 255, 256, 257, 511, 512, 513, 1000, 1023, 1024, 1025, 4097, 20000} {
		l := numbered(n)
		s, ok := impl.StackOf(l)
		checkWhole(t, "many leaves", s, ok, l)
	}
}

// After every push the stack is that of the leaves so far.
func TestPushedOneByOne(t *testing.T) {
	for name, l := range someLists(70) {
		var s impl.Stack
		for n := range len(l) + 1 {
			checkWhole(t, name+" pushed", s, true, l[:n])
			of, ok := impl.StackOf(l[:n])
			checkStack(t, fmt.Sprintf("%s, %d leaves at once", name, n), of, ok, s)
			if n < len(l) {
				s = pushAll(t, s, l[n:n+1])
			}
		}
	}
}

// Wherever a list is cut, its first leaves are taken at once and the others pushed.
func TestStackGoesOn(t *testing.T) {
	for _, n := range leafCounts {
		l := numbered(n)
		for cut := range n + 1 {
			s, ok := impl.StackOf(l[:cut])
			checkWhole(t, "the first leaves", s, ok, l[:cut])
			checkWhole(t, fmt.Sprintf("more behind %d", cut), pushAll(t, s, l[cut:]), true, l)
		}
	}
}

// One stack can be pushed to several times, and each result goes on alone.
func TestStackBranches(t *testing.T) {
	for _, n := range leafCounts {
		l := numbered(n)
		s, ok := impl.StackOf(l)
		one := pushAll(t, s, [][]byte{{1}})
		two := pushAll(t, s, [][]byte{{2}, {3}})
		one = pushAll(t, one, [][]byte{{4}, {5}})
		checkWhole(t, "the trunk", s, ok, l)
		checkWhole(t, "a branch", one, true, append(slices.Clone(l), []byte{1}, []byte{4}, []byte{5}))
		checkWhole(t, "another branch", two, true, append(slices.Clone(l), []byte{2}, []byte{3}))
	}
}

func TestKnownIncrementalRoots(t *testing.T) {
	known := map[int]string{
		0: "e3b0c44298fc1c149afbf4c8996fb92427ae41e4649b934ca495991b7852b855",
		1: "6e340b9cffb37a989ca544e6bb780a2c78901d3fb33738768511a30617afa01d",
		3: "aeb6bcfe274b70a14fb067a5e5578264db0fa9b51af5e0ba159158f329e06e77",
		7: "ddb89be403809e325750d3d263cd78929c2942b7942a34b77e122c9594a74c8c",
		8: "5dc9da79a70659a9ad559cb701ded9a2ab9d823aad2f4960cfe370eff4604328",
	}
	for n, want := range known {
		s, _ := impl.StackOf(knownLeaves(t)[:n])
		checkHash(t, fmt.Sprintf("%d known leaves", n), impl.StackRoot(s), fromHex(t, want))
	}
	s, _ := impl.StackOf([][]byte{{1}, {2}, {3}})
	checkHash(t, "three leaves", impl.StackRoot(s), fromHex(t, "e2da0242936eb38ec996a543601b3a1da4226391ff92014ed1a7a248ace36347"))
}

func TestStackOfDrawnTrees(t *testing.T) {
	for name, l := range someLists(9) {
		for n, want := range drawnRoots(l) {
			s, _ := impl.StackOf(l[:n])
			checkHash(t, fmt.Sprintf("%d leaves, %s", n, name), impl.StackRoot(s), want)
		}
	}
}

// Another leaf, another order or another number of leaves has another stack.
func TestOtherLeavesHaveOtherRoots(t *testing.T) {
	for _, n := range []int{1, 2, 3, 4, 5, 7, 8, 9, 17} {
		l := numbered(n)
		lists := [][][]byte{l, append(slices.Clone(l), nil), append([][]byte{nil}, l...), append(slices.Clone(l), l[n-1]), l[:n-1]}
		for i := range l {
			changed := deepClone(l)
			changed[i][0] ^= 128
			lists = append(lists, changed)
			for j := range i {
				exchanged := slices.Clone(l)
				exchanged[i], exchanged[j] = l[j], l[i]
				lists = append(lists, exchanged)
			}
		}
		seen := map[string]int{}
		for i, other := range lists {
			s, _ := impl.StackOf(other)
			root := string(impl.StackRoot(s))
			if j, ok := seen[root]; ok {
				t.Errorf("%d leaves: lists %d and %d have one root", n, j, i)
			}
			seen[root] = i
		}
	}
}

// A leaf is pushed as its hash: the leaf itself, even if it is a hash, leads to another root.
func TestPushedHashIsNoLeaf(t *testing.T) {
	for n := range 20 {
		l := numbered(n)
		leaf := impl.Sha([]byte{byte(n)})
		s, _ := impl.StackOf(l)
		pushed, ok := impl.StackPush(s, leaf)
		if !ok || bytes.Equal(impl.StackRoot(pushed), impl.TreeRoot(append(slices.Clone(l), leaf))) {
			t.Errorf("a hash pushed onto %d leaves: %v, with the root of the hash as a leaf", n, ok)
		}
		checkWhole(t, "the hash of a hash", pushAll(t, s, [][]byte{leaf}), true, append(slices.Clone(l), leaf))
	}
}
