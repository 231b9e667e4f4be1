package tests

import (
	"fmt"
	"slices"
	"sync"
	"testing"

	"loop.example/g00790/impl"
)

// Chapter 1 for chapter 10: arguments and their spare capacity stay unchanged
// (the outer slice of a list or a proof, its elements, and the capacity behind
// each), results are new memory, and no function panics.

func TestConsOfPure(t *testing.T) {
	for _, n := range leafCounts {
		for name, l := range someLists(n) {
			for _, m := range append(someOlds(n), -1, 0, n+1) {
				what := fmt.Sprintf("%s, ConsOf %d leaves and %d", name, n, m)
				checkProofPure(t, what, l, func(l [][]byte) ([][]byte, bool) { return impl.ConsOf(l, m) })
			}
		}
	}
}

// checkRootsPure calls ConsRoots twice with an old root and a proof that can be watched.
func checkRootsPure(t *testing.T, m, n int, old []byte, proof [][]byte) {
	t.Helper()
	what := fmt.Sprintf("ConsRoots of %d, %d, %d bytes and %d elements", m, n, len(old), len(proof))
	held, given := holdList(proof), roomy(old)
	a, b, ok := impl.ConsRoots(m, n, given, held.given)
	want := deepClone([][]byte{a, b})
	held.check(t, what)
	checkRoomy(t, what, given, old)
	checkElementsApart(t, what, [][]byte{a, b})
	held.check(t, what+", its results overwritten")
	checkRoomy(t, what+", its results overwritten", given, old)
	a, b, okAgain := impl.ConsRoots(m, n, given, held.given)
	if ok != okAgain || !sameList([][]byte{a, b}, want) {
		t.Errorf("%s: the second call returns %x, %x, %v, the first %x, %v", what, a, b, okAgain, want, ok)
	}
	overwriteBytes(given)
	overwriteList(held.given)
	if !sameList([][]byte{a, b}, want) {
		t.Errorf("%s: a change of the arguments changed the results", what)
	}
}

// pureCounts are numbers of leaves, and some that are none.
var pureCounts = append([]int{-1, mostLeaves, mostLeaves + 1}, leafCounts...)

func TestConsRootsPure(t *testing.T) {
	for _, n := range pureCounts {
		for _, m := range append(someOlds(n), -1, 0, n+1) {
			for _, proof := range someProofs(writtenConsLen(m, n)) {
				for _, old := range [][]byte{goHash(9), filled(31, 9), filled(33, 9), nil} {
					checkRootsPure(t, m, n, old, proof)
				}
			}
		}
	}
}

// Roots that are equal to old, or to one another, are no memory of it, nor of one another.
func TestRootsEqualToOldAreNew(t *testing.T) {
	for _, k := range [][2]int{{1, 1}, {2, 2}, {3, 3}, {7, 7}, {8, 8}, {mostLeaves, mostLeaves}, {1, 2}, {1, 3}, {2, 3}, {4, 7}, {8, 9}, {mostLeaves / 2, mostLeaves}} {
		m, n := k[0], k[1]
		what := fmt.Sprintf("%d of %d leaves", m, n)
		proof := hashesFor(writtenConsLen(m, n))
		given := roomy(goHash(9))
		a, b, ok := impl.ConsRoots(m, n, given, proof)
		if !ok || len(a) != 32 || len(b) != 32 || &a[0] == &given[0] || &b[0] == &given[0] || &a[0] == &b[0] {
			t.Errorf("%s: %v, or roots in one memory", what, ok)
		}
		_, want := writtenConsRoots(m, n, goHash(9), proof)
		overwriteBytes(given)
		checkHash(t, what+", old changed", a, goHash(9))
		checkHash(t, what+", old changed", b, want)
		overwriteBytes(a)
		checkHash(t, what+", the old root changed", b, want)
	}
}

func TestConsOkPure(t *testing.T) {
	for _, n := range pureCounts {
		for _, m := range append(someOlds(n), -1, 0, n+1) {
			for at, proof := range someProofs(writtenConsLen(m, n)) {
				old, root := goHash(9), goHash(1)
				if at == 0 && m >= 1 && m <= n && n <= mostLeaves {
					old, root = writtenConsRoots(m, n, old, proof)
				}
				what := fmt.Sprintf("ConsOk of %d, %d and %d elements", m, n, len(proof))
				held, given, wanted := holdList(proof), roomy(old), roomy(root)
				first := impl.ConsOk(m, n, given, wanted, held.given)
				held.check(t, what)
				checkRoomy(t, what+", the old root", given, old)
				checkRoomy(t, what+", the new root", wanted, root)
				if again := impl.ConsOk(m, n, given, wanted, held.given); first != again {
					t.Errorf("%s: %v and then %v", what, first, again)
				}
			}
		}
	}
}

// The proofs of several prefixes have equal elements, but none in common.
func TestConsShareNothing(t *testing.T) {
	for name, l := range someLists(17) {
		checkListsApart(t, name, 2*len(l), func(i int) [][]byte {
			proof, _ := impl.ConsOf(l, i%len(l)+1)
			return proof
		})
	}
}

// Leaves may lie in one piece of memory, or be one and the same slice; so may
// the elements of a proof, and the old root.
func TestConsOfSharedMemory(t *testing.T) {
	for _, n := range leafCounts {
		all := mixedBytes(32*(n+2), n)
		before := slices.Clone(all)
		one, pieces := make([][]byte, n), make([][]byte, n+2)
		for i := range n {
			one[i] = all
		}
		for i := range pieces {
			pieces[i] = all[32*i : 32*i+32]
		}
		for what, l := range map[string][][]byte{"one leaf": one, "pieces": pieces[:n]} {
			for _, m := range someOlds(n) {
				checkCons(t, what, l, m, writtenCons(deepClone(l), m))
				proof, _ := impl.ConsOf(l, m)
				checkElementsApart(t, what, proof)
				checkHash(t, what+", the memory", all, before)
			}
		}
		for _, m := range someOlds(n) {
			size := writtenConsLen(m, n)
			for _, proof := range [][][]byte{pieces[:size], slices.Repeat([][]byte{all[:32]}, size)} {
				for _, old := range [][]byte{all[:32], all[len(all)-32:]} {
					a, b := writtenConsRoots(m, n, old, proof)
					checkRoots(t, "shared memory", m, n, old, proof, a, b)
					checkConsOk(t, "shared memory", m, n, a, b, proof, true)
					a, b, _ = impl.ConsRoots(m, n, old, proof)
					checkElementsApart(t, "the roots", [][]byte{a, b})
					checkHash(t, "the memory", all, before)
				}
			}
		}
	}
}

// One slice may be the old root and the new one, and an element of the proof.
func TestConsOkOfOneSliceAsBoth(t *testing.T) {
	for n := 1; n <= 20; n++ {
		for _, m := range allOlds(n) {
			proof := hashesFor(writtenConsLen(m, n))
			for _, both := range append(proof, goHash(9)) {
				checkConsOk(t, "one slice as both roots", m, n, both, both, proof, m == n)
			}
		}
	}
}

func TestConsOfNil(t *testing.T) {
	for n := range 20 {
		nils, empty, turns := nilLists(n)
		for _, m := range allOlds(n) {
			want := writtenCons(empty, m)
			old, root := goRoot(empty[:m]), goRoot(empty)
			for _, l := range [][][]byte{nils, empty, turns} {
				checkCons(t, "nil and empty", l, m, want)
			}
			checkRoots(t, "nil and empty", m, n, old, want, old, root)
			checkConsOk(t, "nil and empty", m, n, old, root, want, true)
			checkConsOk(t, "no old root", m, n, nil, root, want, false)
			checkConsOk(t, "no new root", m, n, old, nil, want, false)
			checkConsOk(t, "no roots", m, n, nil, nil, want, false)
			checkConsOk(t, "empty roots", m, n, []byte{}, []byte{}, want, false)
		}
		for _, proof := range [][][]byte{nils, empty, turns} {
			for m := 1; m < 5; m++ {
				if n > 0 {
					checkConsRefused(t, "a proof of nil and empty", m, m+1, goHash(9), proof)
					checkConsRefused(t, "a proof of nil and empty", m, m, goHash(9), proof)
				}
			}
		}
	}
	for _, none := range [][][]byte{nil, {}} {
		checkRoots(t, "no proof", 3, 3, goHash(2), none, goHash(2), goHash(2))
		checkConsOk(t, "no proof", 3, 3, goHash(2), goHash(2), none, true)
		checkConsRefused(t, "no proof", 1, 2, goHash(2), none)
		checkConsRefused(t, "no leaf", 0, 0, goHash(2), none)
		checkConsRefused(t, "no leaf", 0, 0, goRoot(nil), none)
		checkNoCons(t, "no leaf", none, 0)
		checkNoCons(t, "no leaf", none, 1)
		checkNoCons(t, "no leaf", none, -1)
	}
}

// Every function takes all ints, whatever the other arguments are.
func TestConsOfExtremes(t *testing.T) {
	lists := [][][]byte{nil, {}, {nil}, {{}}, {goHash(0)}, hashesFor(2), hashesFor(20), make([][]byte, 20), {goHash(0), nil}, {nil, goHash(0)}, {filled(33, 1)}}
	for _, m := range append(notOlds(0), extremes...) {
		for _, l := range lists {
			proof, ok := impl.ConsOf(l, m)
			if ok != (m >= 1 && m <= len(l)) || !ok && len(proof) != 0 {
				t.Errorf("ConsOf %d elements and %d: %x, %v", len(l), m, proof, ok)
			}
			for _, n := range append(notLeafCounts, extremes...) {
				fits := m >= 1 && m <= n && n <= mostLeaves && len(l) == writtenConsLen(m, n) && !slices.ContainsFunc(l, func(r []byte) bool { return len(r) != 32 })
				a, b, ok := impl.ConsRoots(m, n, goHash(0), l)
				if ok != fits || ok != (len(a) == 32) || ok != (len(b) == 32) || !ok && len(a)+len(b) != 0 {
					t.Errorf("ConsRoots of %d, %d and %d elements: %x, %x, %v", m, n, len(l), a, b, ok)
				}
				checkNoRoots(t, "no hash", m, n, nil, l)
				checkConsOk(t, "no roots", m, n, nil, nil, l, false)
			}
		}
	}
}

// A call in between, also a refused one, leaves nothing behind.
func TestConsKeepNoState(t *testing.T) {
	l := numbered(23)
	want, old, root := writtenCons(l, 11), goRoot(l[:11]), goRoot(l)
	for n := range 40 {
		impl.ConsOf(numbered(n), n/2)
		impl.ConsOf(l, -n)
		impl.ConsLen(n/3, n)
		impl.ConsRoots(n/3, n, goHash(0), hashesFor(n))
		impl.ConsOk(n/3, n, nil, nil, make([][]byte, n))
		checkCons(t, "after other calls", l, 11, want)
		checkConsLen(t, 11, len(l), len(want))
		checkRoots(t, "after other calls", 11, len(l), old, want, old, root)
		checkConsOk(t, "after other calls", 11, len(l), old, root, want, true)
	}
}

func TestConsAtTheSameTime(t *testing.T) {
	l := numbered(40)
	root := goRoot(l)
	var group sync.WaitGroup
	for _, m := range allOlds(len(l)) {
		group.Go(func() {
			want, old := writtenCons(l, m), goRoot(l[:m])
			checkCons(t, "at the same time", l, m, want)
			checkRoots(t, "at the same time", m, len(l), old, want, old, root)
			checkConsOk(t, "at the same time", m, len(l), old, root, want, true)
		})
	}
	group.Wait()
}
