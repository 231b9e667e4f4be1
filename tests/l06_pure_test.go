package tests

import (
	"bytes"
	"fmt"
	"slices"
	"sync"
	"testing"

	"loop.example/g00790/impl"
)

// Chapter 1 for chapter 7: arguments and their spare capacity stay unchanged
// (the list, its elements, and the capacity behind both), results are new
// memory, and no function panics.

// A heldList is a list as it was given to a function.
type heldList struct {
	given [][]byte // with spare capacity, and so has each element that is not nil
	all   [][]byte // the elements of given and those in its spare capacity
	want  [][]byte
}

func holdList(l [][]byte) heldList {
	var all [][]byte
	for _, x := range l {
		if x != nil {
			x = roomy(x)
		}
		all = append(all, x)
	}
	for range spareSize {
		all = append(all, roomy([]byte{spareByte}))
	}
	return heldList{slices.Clone(all)[:len(l)], all, deepClone(l)}
}

// samePlace reports whether two elements are one slice: the same memory, length and capacity.
func samePlace(a, b []byte) bool {
	if len(a) != len(b) || cap(a) != cap(b) || (a == nil) != (b == nil) {
		return false
	}
	return cap(a) == 0 || &a[:1][0] == &b[:1][0]
}

// check reports a change of the list, of its elements, or of the capacity behind both.
func (h heldList) check(t *testing.T, what string) {
	t.Helper()
	for i, x := range h.given[:len(h.all)] {
		if !samePlace(x, h.all[i]) {
			t.Errorf("%s: element %d of %d was replaced", what, i, len(h.given))
			continue
		}
		want := []byte{spareByte}
		if i < len(h.given) {
			want = h.want[i]
		}
		if x != nil {
			checkRoomy(t, fmt.Sprintf("%s, element %d of %d", what, i, len(h.given)), x, want)
		}
	}
}

// checkListsPure does for lists what checkPure does for byte strings.
func checkListsPure(t *testing.T, what string, f func(args [][][]byte) []byte, args ...[][]byte) {
	t.Helper()
	var held []heldList
	var given [][][]byte
	for _, l := range args {
		h := holdList(l)
		held, given = append(held, h), append(given, h.given)
	}
	checkHeld := func(what string) {
		t.Helper()
		for _, h := range held {
			h.check(t, what)
		}
	}
	first := f(given)
	want := bytes.Clone(first)
	checkHeld(what)
	all := first[:cap(first)]
	for i := range all {
		all[i] = scribble
	}
	checkHeld(what + ", its result overwritten")
	if again := f(given); !bytes.Equal(again, want) {
		t.Errorf("%s: the second call returns %x, the first %x", what, again, want)
	}
}

// overwriteBytes changes a byte string and its spare capacity.
func overwriteBytes(b []byte) {
	all := b[:cap(b)]
	for i := range all {
		all[i] = scribble
	}
}

// overwriteList changes a list, its elements, and the capacity behind both.
func overwriteList(l [][]byte) {
	for _, x := range l {
		overwriteBytes(x)
	}
	all := l[:cap(l)]
	for i := range all {
		all[i] = []byte{scribble}
	}
}

// checkElementsApart overwrites the elements of one list one by one and reports those that share memory.
func checkElementsApart(t *testing.T, what string, l [][]byte) {
	t.Helper()
	for i, x := range l {
		want := deepClone(l)
		want[i] = filled(len(x), scribble)
		overwriteBytes(x)
		if !slices.EqualFunc(l, want, bytes.Equal) {
			t.Errorf("%s: a change of element %d changed another one", what, i)
		}
	}
}

func TestLeafAndNodePure(t *testing.T) {
	for n := range 131 {
		a, b := mixedBytes(n, 15), mixedBytes(130-n, 16)
		checkPure(t, fmt.Sprintf("LeafHash of %d bytes", n), func(x [][]byte) []byte { return impl.LeafHash(x[0]) }, a)
		checkPure(t, fmt.Sprintf("NodeHash of %d bytes first", n), func(x [][]byte) []byte { return impl.NodeHash(x[0], x[1]) }, a, b)
	}
	hash := impl.Sha(nil)
	checkPure(t, "NodeHash of hashes", func(x [][]byte) []byte { return impl.NodeHash(x[0], x[1]) }, hash, hash)
}

func TestTreeRootPure(t *testing.T) {
	root := func(l [][][]byte) []byte { return impl.TreeRoot(l[0]) }
	for _, n := range leafCounts {
		for name, l := range someLists(n) {
			checkListsPure(t, fmt.Sprintf("TreeRoot of %d leaves, %s", n, name), root, l)
		}
	}
}

func TestTreeSamePure(t *testing.T) {
	same := func(l [][][]byte) []byte { return oneByte(impl.TreeSame(l[0], l[1])) }
	for _, n := range leafCounts {
		for name, l := range someLists(n) {
			what := fmt.Sprintf("TreeSame of %d elements, %s", n, name)
			checkListsPure(t, what, same, l, l)
			checkListsPure(t, what+", and others", same, l, numbered(n))
			checkListsPure(t, what+", and more", same, l, numbered(n+1))
		}
	}
}

// The root of one leaf is no memory of the leaf, also if the leaf is a hash.
func TestRootOfOneLeafIsNew(t *testing.T) {
	for _, leaf := range [][]byte{nil, {}, {7}, goHash(0), filled(32, 9), filled(64, 9)} {
		given := roomy(leaf)
		l := [][]byte{given}
		root := impl.TreeRoot(l)
		want := goHash(0, leaf)
		for i := range given[:cap(given)] {
			given[:cap(given)][i] ^= 255
		}
		checkHash(t, "TreeRoot after a change of its leaf", root, want)
		l[0] = bytes.Clone(leaf)
		for i := range root {
			root[i] = scribble
		}
		checkHash(t, "TreeRoot called again", impl.TreeRoot(l), want)
	}
}

// No result shares memory with that of an earlier call.
func TestTreeResultsAreNew(t *testing.T) {
	calls := map[string]func() []byte{
		"LeafHash(nil)":         func() []byte { return impl.LeafHash(nil) },
		"LeafHash of a byte":    func() []byte { return impl.LeafHash([]byte{5}) },
		"NodeHash(nil, nil)":    func() []byte { return impl.NodeHash(nil, nil) },
		"NodeHash of two bytes": func() []byte { return impl.NodeHash([]byte{5}, []byte{6}) },
		"TreeRoot(nil)":         func() []byte { return impl.TreeRoot(nil) },
		"TreeRoot of a leaf":    func() []byte { return impl.TreeRoot([][]byte{{5}}) },
		"TreeRoot of a nil":     func() []byte { return impl.TreeRoot([][]byte{nil}) },
		"TreeRoot of leaves":    func() []byte { return impl.TreeRoot(numbered(5)) },
	}
	for what, call := range calls {
		first, second := call(), call()
		want := bytes.Clone(second)
		for i := range first[:cap(first)] {
			first[:cap(first)][i] ^= 255
		}
		checkHash(t, what+" called before the change", second, want)
		checkHash(t, what+" called after the change", call(), want)
	}
}

// Leaves may lie in one piece of memory, so that the spare capacity of each is
// that of the next ones, or even be one and the same slice.
func TestTreesOfSharedMemory(t *testing.T) {
	all := mixedBytes(200, 20)
	for _, size := range []int{1, 7, 31, 32, 33, 64, 200} {
		l := make([][]byte, 0, 64)
		for at := 0; at < len(all); at += size {
			l = append(l, all[at:min(at+size, len(all))])
		}
		l = append(l, all, all[:0], all[50:100], all)
		copied := deepClone(l)
		checkHash(t, fmt.Sprintf("TreeRoot of pieces of %d bytes", size), impl.TreeRoot(l), goRoot(copied))
		checkSame(t, "shared memory", l, copied, true)
		checkSame(t, "a list and its own beginning", l, l[:len(l)-1], false)
		checkHash(t, "the memory", all, mixedBytes(200, 20))
	}
	for cut := range len(all) + 1 {
		want := goHash(1, bytes.Clone(all[:cut]), bytes.Clone(all[cut:]))
		checkHash(t, fmt.Sprintf("NodeHash of a list cut at %d", cut), impl.NodeHash(all[:cut], all[cut:]), want)
		checkHash(t, "NodeHash of a part and all", impl.NodeHash(all[:cut], all), goHash(1, all[:cut], all))
	}
	checkHash(t, "the memory", all, mixedBytes(200, 20))
}

// nilLists returns three lists of n elements: all of them nil, all empty, and both in turns.
func nilLists(n int) (nils, empty, turns [][]byte) {
	for i := range n {
		nils, empty = append(nils, nil), append(empty, []byte{})
		turns = append(turns, [][]byte{{}, nil}[i%2])
	}
	return nils, empty, turns
}

func TestTreesOfNil(t *testing.T) {
	checkHash(t, "LeafHash(nil)", impl.LeafHash(nil), impl.LeafHash([]byte{}))
	for _, x := range [][]byte{nil, []byte("abc"), goHash(0)} {
		checkHash(t, "NodeHash of nil and bytes", impl.NodeHash(nil, x), impl.NodeHash([]byte{}, x))
		checkHash(t, "NodeHash of bytes and nil", impl.NodeHash(x, nil), impl.NodeHash(x, []byte{}))
	}
	checkHash(t, "TreeRoot(nil)", impl.TreeRoot(nil), impl.TreeRoot([][]byte{}))
	for n := range 20 {
		nils, empty, turns := nilLists(n)
		checkHash(t, fmt.Sprintf("TreeRoot of %d nil", n), impl.TreeRoot(nils), impl.TreeRoot(empty))
		checkHash(t, fmt.Sprintf("TreeRoot of %d nil and empty", n), impl.TreeRoot(turns), impl.TreeRoot(empty))
		checkSame(t, "nil and empty", nils, empty, true)
		checkSame(t, "nil beside empty", turns, nils, true)
	}
}

func TestSplitOfExtremes(t *testing.T) {
	for _, n := range extremes {
		k := impl.SplitAt(n)
		if n < 2 && k != 0 || n >= 2 && (k < 1 || k >= n || k < n-k) {
			t.Errorf("SplitAt(%d) = %d", n, k)
		}
	}
}

// Every hash has 32 bytes, whatever the arguments are.
func TestTreeLengths(t *testing.T) {
	for _, x := range slices.Concat(someKeys(), someTexts(), someStrings()) {
		for _, hash := range [][]byte{impl.LeafHash(x), impl.NodeHash(x, nil), impl.NodeHash(nil, x), impl.NodeHash(x, x), impl.TreeRoot([][]byte{x, x, x})} {
			if len(hash) != 32 {
				t.Errorf("%v has a hash of %d bytes", x, len(hash))
			}
		}
	}
	for n := range 70 {
		if got := len(impl.TreeRoot(make([][]byte, n))); got != 32 {
			t.Errorf("a root of %d leaves has %d bytes", n, got)
		}
	}
}

// A call in between, also with other leaves, leaves nothing behind.
func TestTreesKeepNoState(t *testing.T) {
	l := numbered(7)
	want := goRoot(l)
	for n := range 20 {
		impl.TreeRoot(numbered(n))
		impl.TreeRoot(make([][]byte, n))
		impl.LeafHash(filled(n, 255))
		impl.NodeHash(filled(n, 255), nil)
		impl.TreeSame(l, numbered(n))
		checkHash(t, "TreeRoot after other calls", impl.TreeRoot(l), want)
	}
	l[6] = append(l[6], 0)
	checkHash(t, "TreeRoot of a changed list", impl.TreeRoot(l), goRoot(l))
}

func TestTreesAtTheSameTime(t *testing.T) {
	l := numbered(40)
	var group sync.WaitGroup
	for n := range len(l) + 1 {
		group.Go(func() {
			checkHash(t, "TreeRoot at the same time", impl.TreeRoot(l[:n]), goRoot(l[:n]))
			checkSame(t, "at the same time", l[:n], deepClone(l[:n]), true)
		})
	}
	group.Wait()
}
