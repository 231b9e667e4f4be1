package tests

import (
	"fmt"
	"slices"
	"sync"
	"testing"

	"loop.example/g00790/impl"
)

// Chapter 1 for chapter 9: arguments and their spare capacity stay unchanged
// (the outer slice of a list or a path, its elements, and the capacity behind
// each), results are new memory, and no function panics.

// checkProofPure calls f, which returns a proof, twice with a list that can be watched.
func checkProofPure(t *testing.T, what string, l [][]byte, f func(l [][]byte) ([][]byte, bool)) {
	t.Helper()
	held := holdList(l)
	first, ok := f(held.given)
	want := deepClone(first)
	held.check(t, what)
	overwriteList(first)
	held.check(t, what+", its result overwritten")
	again, okAgain := f(held.given)
	if ok != okAgain || !sameList(again, want) {
		t.Errorf("%s: the second call returns %x, %v, the first %x, %v", what, again, okAgain, want, ok)
	}
	overwriteList(held.given)
	if !sameList(again, want) {
		t.Errorf("%s: a change of the list changed the result", what)
	}
	checkElementsApart(t, what, again)
}

func TestPathOfPure(t *testing.T) {
	for _, n := range leafCounts {
		for name, l := range someLists(n) {
			for _, i := range append(someLeaves(n), -1, n, n+1) {
				what := fmt.Sprintf("%s, PathOf %d leaves and %d", name, n, i)
				checkProofPure(t, what, l, func(l [][]byte) ([][]byte, bool) { return impl.PathOf(l, i) })
			}
		}
	}
}

// someProofs returns a list of n hashes, which is a proof of that length, and lists that are none.
func someProofs(n int) [][][]byte {
	proof := hashesFor(n)
	return [][][]byte{
		proof, append(slices.Clone(proof), goHash(0)), append(slices.Clone(proof), nil), proof[:n/2], nil,
		make([][]byte, n), slices.Repeat([][]byte{filled(33, 3)}, n), slices.Repeat([][]byte{{}}, n),
	}
}

// checkRootPure calls PathRoot twice with a hash and a path that can be watched.
func checkRootPure(t *testing.T, h []byte, i, n int, path [][]byte) {
	t.Helper()
	what := fmt.Sprintf("PathRoot of %d bytes, %d, %d and %d elements", len(h), i, n, len(path))
	held, leaf := holdList(path), roomy(h)
	first, ok := impl.PathRoot(leaf, i, n, held.given)
	want := slices.Clone(first)
	held.check(t, what)
	checkRoomy(t, what, leaf, h)
	overwriteBytes(first)
	held.check(t, what+", its result overwritten")
	checkRoomy(t, what+", its result overwritten", leaf, h)
	again, okAgain := impl.PathRoot(leaf, i, n, held.given)
	if ok != okAgain {
		t.Errorf("%s: %v and then %v", what, ok, okAgain)
	}
	checkHash(t, what+", called again", again, want)
	overwriteBytes(leaf)
	overwriteList(held.given)
	checkHash(t, what+", its arguments overwritten", again, want)
}

func TestPathRootPure(t *testing.T) {
	for _, n := range append([]int{-1, mostLeaves, mostLeaves + 1}, leafCounts...) {
		for _, i := range append(someLeaves(n), -1, n) {
			for _, path := range someProofs(writtenLen(i, n)) {
				for _, h := range [][]byte{goHash(9), filled(31, 9), filled(33, 9), nil} {
					checkRootPure(t, h, i, n, path)
				}
			}
		}
	}
}

// The root of one leaf is equal to its hash, but no memory of it.
func TestPathRootOfOneLeafIsNew(t *testing.T) {
	for _, path := range [][][]byte{nil, {}, make([][]byte, 0, 4), hashesFor(3)[:0]} {
		given := roomy(goHash(7))
		root, ok := impl.PathRoot(given, 0, 1, path)
		if !ok || cap(root) > 0 && &root[0] == &given[0] {
			t.Errorf("PathRoot of one leaf: %v, or with its memory", ok)
		}
		overwriteBytes(given)
		checkHash(t, "the root after a change of the leaf", root, goHash(7))
		copy(given, goHash(7))
		overwriteBytes(root)
		checkHash(t, "the leaf after a change of the root", given, goHash(7))
	}
}

func TestPathOkPure(t *testing.T) {
	for _, n := range append([]int{-1, mostLeaves, mostLeaves + 1}, leafCounts...) {
		for _, i := range append(someLeaves(n), -1, n) {
			for at, path := range someProofs(writtenLen(i, n)) {
				x, root := mixedBytes(i%50+60, n), goHash(1)
				if at == 0 && n > 0 && n <= mostLeaves && i >= 0 && i < n {
					root = writtenPathRoot(goHash(0, x), i, n, path)
				}
				what := fmt.Sprintf("PathOk of %d, %d and %d elements", i, n, len(path))
				held, leaf, wanted := holdList(path), roomy(x), roomy(root)
				first := impl.PathOk(leaf, i, n, held.given, wanted)
				held.check(t, what)
				checkRoomy(t, what+", the leaf", leaf, x)
				checkRoomy(t, what+", the root", wanted, root)
				if again := impl.PathOk(leaf, i, n, held.given, wanted); first != again {
					t.Errorf("%s: %v and then %v", what, first, again)
				}
			}
		}
	}
}

// checkListsApart overwrites n lists one by one and reports those that share memory.
func checkListsApart(t *testing.T, what string, n int, list func(i int) [][]byte) {
	t.Helper()
	var lists, copies [][][]byte
	for i := range n {
		l := list(i)
		lists, copies = append(lists, l), append(copies, deepClone(l))
	}
	for i, l := range lists {
		overwriteList(l)
		for j := i + 1; j < n; j++ {
			if !sameList(lists[j], copies[j]) {
				t.Errorf("%s: a change of list %d changed list %d", what, i, j)
			}
		}
	}
}

// The path of a leaf and those of its neighbors have equal elements, but none in common.
func TestPathsShareNothing(t *testing.T) {
	for name, l := range someLists(17) {
		checkListsApart(t, name, 2*len(l), func(i int) [][]byte {
			path, _ := impl.PathOf(l, i%len(l))
			return path
		})
	}
}

// Leaves may lie in one piece of memory, or be one and the same slice; so may
// the elements of a path, and the hash of the leaf.
func TestPathsOfSharedMemory(t *testing.T) {
	for _, n := range leafCounts {
		all := mixedBytes(32*(n+1), n)
		before := slices.Clone(all)
		one, pieces := make([][]byte, n), make([][]byte, n)
		for i := range n {
			one[i], pieces[i] = all, all[32*i:32*i+32]
		}
		for what, l := range map[string][][]byte{"one leaf": one, "pieces": pieces} {
			for _, i := range someLeaves(n) {
				want := writtenPath(deepClone(l), i)
				got, ok := impl.PathOf(l, i)
				checkPath(t, fmt.Sprintf("%s, leaf %d of %d", what, i, n), got, ok, want)
				checkElementsApart(t, what, got)
				checkHash(t, what+", the memory", all, before)
			}
		}
		for _, i := range someLeaves(n) {
			size := writtenLen(i, n)
			for _, path := range [][][]byte{pieces[:size], slices.Repeat([][]byte{all[:32]}, size)} {
				for _, h := range [][]byte{all[:32], all[len(all)-32:]} {
					want := writtenPathRoot(h, i, n, path)
					checkRoot(t, "shared memory", h, i, n, path, want)
					checkOk(t, "shared memory", all, i, n, path, writtenPathRoot(goHash(0, all), i, n, path), true)
					root, _ := impl.PathRoot(h, i, n, path)
					overwriteBytes(root)
					checkHash(t, "the memory", all, before)
				}
			}
		}
	}
}

// A root that is the hash of the leaf or an element of the path itself is only compared.
func TestPathOkOfArgumentAsRoot(t *testing.T) {
	for _, n := range []int{1, 2, 3, 5, 8} {
		for _, i := range someLeaves(n) {
			path := hashesFor(writtenLen(i, n))
			for _, root := range path {
				checkOk(t, "an element as the root", root, i, n, path, root, false)
			}
			leaf := goHash(0, []byte{1})
			checkOk(t, "the hash as the root", []byte{1}, i, n, path, leaf, n == 1)
		}
	}
}

func TestPathsOfNil(t *testing.T) {
	for n := range 20 {
		nils, empty, turns := nilLists(n)
		for i := range n {
			want := writtenPath(empty, i)
			for _, l := range [][][]byte{nils, empty, turns} {
				got, ok := impl.PathOf(l, i)
				checkPath(t, fmt.Sprintf("leaf %d of %d nil and empty", i, n), got, ok, want)
			}
			root := goRoot(empty)
			checkOk(t, "a leaf nil", nil, i, n, want, root, true)
			checkOk(t, "an empty leaf", []byte{}, i, n, want, root, true)
			checkOk(t, "a zero byte", []byte{0}, i, n, want, root, false)
		}
		for _, path := range [][][]byte{nils, empty, turns} {
			for i := range 5 {
				if n > 0 || i > 0 {
					checkRefused(t, "a path of nil and empty", nil, i, i+1, path)
				}
			}
		}
	}
	for _, path := range [][][]byte{nil, {}} {
		checkRoot(t, "no path", goHash(2), 0, 1, path, goHash(2))
		checkOk(t, "no path", []byte{2}, 0, 1, path, goHash(0, []byte{2}), true)
		checkRefused(t, "no path", []byte{2}, 0, 2, path)
		checkRefused(t, "no leaf", []byte{2}, 0, 0, path)
	}
	for _, none := range [][][]byte{nil, {}} {
		checkNoPath(t, "no leaf", none, 0)
		checkNoPath(t, "no leaf", none, -1)
	}
}

// Every function takes all ints, whatever the other arguments are.
func TestPathsOfExtremes(t *testing.T) {
	lists := [][][]byte{nil, {}, {nil}, {{}}, {goHash(0)}, hashesFor(2), hashesFor(20), make([][]byte, 20), {goHash(0), nil}, {nil, goHash(0)}, {filled(33, 1)}}
	for _, i := range append(notLeaves(0), extremes...) {
		for _, l := range lists {
			path, ok := impl.PathOf(l, i)
			if ok != (i >= 0 && i < len(l)) || !ok && len(path) != 0 {
				t.Errorf("PathOf %d elements and %d: %x, %v", len(l), i, path, ok)
			}
			for _, n := range append(notLeafCounts, extremes...) {
				fits := i >= 0 && i < n && n <= mostLeaves && len(l) == writtenLen(i, n) && !slices.ContainsFunc(l, func(r []byte) bool { return len(r) != 32 })
				root, ok := impl.PathRoot(goHash(0), i, n, l)
				if ok != fits || ok != (len(root) == 32) || !ok && len(root) != 0 {
					t.Errorf("PathRoot of %d, %d and %d elements: %x, %v", i, n, len(l), root, ok)
				}
				checkNoRoot(t, "no hash", nil, i, n, l)
				checkOk(t, "no root", nil, i, n, l, nil, false)
			}
		}
	}
}

// A call in between, also a refused one, leaves nothing behind.
func TestPathsKeepNoState(t *testing.T) {
	l := numbered(23)
	want, root := writtenPath(l, 11), goRoot(l)
	for n := range 40 {
		impl.PathOf(numbered(n), n/2)
		impl.PathOf(l, -n)
		impl.PathLen(n/3, n)
		impl.PathRoot(goHash(0), n/3, n, hashesFor(n))
		impl.PathOk(nil, n/3, n, make([][]byte, n), nil)
		got, ok := impl.PathOf(l, 11)
		checkPath(t, "PathOf after other calls", got, ok, want)
		checkLen(t, 11, len(l), len(want))
		checkRoot(t, "after other calls", goHash(0, l[11]), 11, len(l), want, root)
		checkOk(t, "after other calls", l[11], 11, len(l), want, root, true)
	}
}

func TestPathsAtTheSameTime(t *testing.T) {
	l := numbered(40)
	root := goRoot(l)
	var group sync.WaitGroup
	for i := range l {
		group.Go(func() {
			want := writtenPath(l, i)
			got, ok := impl.PathOf(l, i)
			checkPath(t, "PathOf at the same time", got, ok, want)
			checkRoot(t, "at the same time", goHash(0, l[i]), i, len(l), got, root)
			checkOk(t, "at the same time", l[i], i, len(l), got, root, true)
		})
	}
	group.Wait()
}
