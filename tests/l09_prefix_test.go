package tests

import (
	"bytes"
	"fmt"
	"slices"
	"testing"

	"loop.example/g00790/impl"
)

// P7 for chapter 10: every prefix has a consistency proof.

// checkPrefix checks that the first m leaves of l have a proof, which leads to both roots.
func checkPrefix(t *testing.T, what string, l [][]byte, m int, old, root []byte) [][]byte {
	t.Helper()
	n := len(l)
	what = fmt.Sprintf("%s, %d of %d leaves", what, m, n)
	proof, ok := impl.ConsOf(l, m)
	if !ok || len(proof) != impl.ConsLen(m, n) {
		t.Errorf("%s: ConsOf: %v with %d elements, but ConsLen is %d", what, ok, len(proof), impl.ConsLen(m, n))
	}
	checkHashes(t, what, proof)
	checkRoots(t, what, m, n, old, proof, old, root)
	checkConsOk(t, what, m, n, old, root, proof, true)
	return proof
}

// checkPrefixes checks that these prefixes of l have proofs, and that nothing else has.
func checkPrefixes(t *testing.T, what string, l [][]byte, olds []int) {
	t.Helper()
	root := impl.TreeRoot(l)
	for _, m := range olds {
		checkPrefix(t, what, l, m, impl.TreeRoot(l[:m]), root)
	}
	for _, m := range notOlds(len(l)) {
		checkNoCons(t, what, l, m)
	}
}

func TestEveryPrefixHasProof(t *testing.T) {
	for n := range 36 {
		for name, l := range someLists(n) {
			checkPrefixes(t, name, l, allOlds(n))
		}
	}
	for _, n := range []int{36, 40, 41, 47, 48, 49, 50, 63, 64, 65, 66, 100, 127, 128, 129} {
		checkPrefixes(t, "different", numbered(n), allOlds(n))
	}
}

func TestSomePrefixesOfManyHaveProofs(t *testing.T) {
	for _, n := range []int{255, 256, 257, 511, 512, 513, 1000, 1023, 1024, 1025, 4097, 20000} {
		checkPrefixes(t, "many leaves", numbered(n), someOlds(n))
	}
}

// The proofs lead from one incremental tree to every later one.
func TestPrefixesOfIncrementalTree(t *testing.T) {
	l := numbered(33)
	roots := [][]byte{nil} // there is no proof for no leaves
	var s impl.Stack
	for n := 1; n <= len(l); n++ {
		s = pushAll(t, s, l[n-1:n])
		roots = append(roots, impl.StackRoot(s))
		for _, m := range allOlds(n) {
			checkPrefix(t, "pushed", l[:n], m, roots[m], roots[n])
		}
	}
}

// The known roots of chapter 7 are those of prefixes of the known leaves, whose
// nodes are also elements of the known paths.
func TestKnownPrefixProofs(t *testing.T) {
	roots := map[int]string{
		1: "6e340b9cffb37a989ca544e6bb780a2c78901d3fb33738768511a30617afa01d",
		2: "fac54203e7cc696cf0dfcb42c92a1d9dbaf70ad9e621f4bd8d98662f00e3c125",
		5: "4e3bbb1f7b478dcfe71fb631631519a3bca12c9aefca1612bfce4c13a86264d4",
		6: "76e67dadbcdf1e10e1b74ddc608abd2f98dfb16fbce75277b5232a127f2087ef",
		8: "5dc9da79a70659a9ad559cb701ded9a2ab9d823aad2f4960cfe370eff4604328",
	}
	known := []struct {
		m, n  int
		proof []string
	}{
		{1, 1, nil},
		{1, 8, []string{
			"96a296d224f285c67bee93c30f8a309157f0daa35dc5b87e410b78630a09cfc7",
			"5f083f0a1a33ca076a95279832580db3e0ef4584bdff1f54c8a360f50de3031e",
			"6b47aaf29ee3c2af9af889bc1fb9254dabd31177f16232dd6aab035ca39bf6e4",
		}},
		{6, 8, []string{
			"0ebc5d3437fbe2db158b9f126a1d118e308181031d0a949f8dededebc558ef6a",
			"ca854ea128ed050b41b35ffc1b87b8eb2bde461e9e3b5596ece6b9d5975a0ae0",
			"d37ee418976dd95753c1c73862b9398fa2a2cf9b4ff0fdfe8b30cd95209614b7",
		}},
		{2, 5, []string{
			"5f083f0a1a33ca076a95279832580db3e0ef4584bdff1f54c8a360f50de3031e",
			"bc1a0643b12e4d2d7c77918f44e0f4f79a838b6cf9ec5b5c283e1f4d88599e6b",
		}},
		{8, 8, nil},
	}
	for _, k := range known {
		var want [][]byte
		for _, s := range k.proof {
			want = append(want, fromHex(t, s))
		}
		l := knownLeaves(t)[:k.n]
		checkPrefix(t, "known", l, k.m, fromHex(t, roots[k.m]), fromHex(t, roots[k.n]))
		checkCons(t, "known", l, k.m, want)
	}
}

// eachPrefix calls f for every prefix of trees of different leaves.
func eachPrefix(t *testing.T, f func(l [][]byte, m int, old, root []byte, proof [][]byte)) {
	t.Helper()
	for _, n := range proofCounts {
		l := numbered(n)
		root := impl.TreeRoot(l)
		for _, m := range allOlds(n) {
			old := impl.TreeRoot(l[:m])
			f(l, m, old, root, checkPrefix(t, "undamaged", l, m, old, root))
		}
	}
}

// The proof does not hold for the root of another prefix, nor for any other old root.
func TestPrefixProofIsOfItsPrefix(t *testing.T) {
	eachPrefix(t, func(l [][]byte, m int, old, root []byte, proof [][]byte) {
		for other := range len(l) + 1 {
			checkConsOk(t, "the root of another prefix", m, len(l), impl.TreeRoot(l[:other]), root, proof, other == m)
			checkConsOk(t, "the root of a suffix", m, len(l), impl.TreeRoot(l[other:]), root, proof, other == 0 && m == len(l))
		}
		for _, other := range append(wrongRoots(old), proof...) {
			checkConsOk(t, "another old root", m, len(l), other, root, proof, false)
		}
	})
}

// The proof does not hold for the root of another tree.
func TestPrefixProofIsOfItsTree(t *testing.T) {
	eachPrefix(t, func(l [][]byte, m int, old, root []byte, proof [][]byte) {
		roots := append(wrongRoots(root), impl.TreeRoot(append(slices.Clone(l), nil)), impl.TreeRoot(l[:len(l)-1]), impl.TreeRoot(l[1:]))
		for j := range l {
			changed := deepClone(l)
			changed[j][0] ^= 1
			roots = append(roots, impl.TreeRoot(changed))
		}
		for _, other := range append(roots, proof...) {
			checkConsOk(t, "the root of another tree", m, len(l), old, other, proof, false)
		}
	})
}

// A tree whose old leaves were changed has no proof for the old root; one whose
// other leaves were changed has.
func TestProofShowsThatOldLeavesStay(t *testing.T) {
	eachPrefix(t, func(l [][]byte, m int, old, root []byte, proof [][]byte) {
		for j := range l {
			changed := deepClone(l)
			changed[j][0] ^= 1
			other, ok := impl.ConsOf(changed, m)
			what := fmt.Sprintf("leaf %d changed", j)
			checkConsOk(t, what, m, len(l), old, impl.TreeRoot(changed), other, ok && j >= m)
			// Where the old leaves are known as one part, the proof has only other leaves.
			same := j < m && (m == len(l) || isPower(m))
			checkConsOk(t, what+", both roots of before", m, len(l), old, root, other, same)
			checkConsOk(t, what+", the proof of before", m, len(l), old, impl.TreeRoot(changed), proof, false)
			exchanged := slices.Clone(l)
			exchanged[0], exchanged[j] = l[j], l[0]
			other, ok = impl.ConsOf(exchanged, m)
			what = fmt.Sprintf("leaves 0 and %d exchanged", j)
			checkConsOk(t, what, m, len(l), old, impl.TreeRoot(exchanged), other, ok && j == 0)
		}
	})
}

// sidesOfOld tells whether the part at which a proof begins is known, and on
// which side of the way up each of the other elements stands.
func sidesOfOld(m, n int, known bool) string {
	if m == n && known {
		return "known "
	}
	if m == n {
		return "unknown "
	}
	k := doubled(n)
	if m <= k {
		return sidesOfOld(m, k, known) + "r"
	}
	return sidesOfOld(m-k, n-k, false) + "l"
}

// A proof with the m or the n of another is accepted only if all its elements
// stand on the same sides there: for another number of leaves this is possible,
// since a root does not contain the number.
func TestPrefixProofIsOfItsPlace(t *testing.T) {
	eachPrefix(t, func(l [][]byte, m int, old, root []byte, proof [][]byte) {
		n := len(l)
		what := fmt.Sprintf("the proof of %d of %d leaves", m, n)
		sides := sidesOfOld(m, n, true)
		for otherN := 1; otherN <= 20; otherN++ {
			for _, otherM := range allOlds(otherN) {
				same := sidesOfOld(otherM, otherN, true) == sides
				if otherN == n && same != (otherM == m) {
					t.Fatalf("%d and %d of %d leaves have the same sides", m, otherM, n)
				}
				checkConsOk(t, what, otherM, otherN, old, root, proof, same)
			}
		}
		for _, otherM := range notOlds(n) {
			checkConsOk(t, what+", no prefix", otherM, n, old, root, proof, false)
		}
		for _, otherN := range notLeafCounts {
			checkConsOk(t, what+", no number of leaves", m, otherN, old, root, proof, false)
		}
	})
}

// The proof of another prefix is no proof, though it leads to the same new root.
func TestProofOfOtherPrefix(t *testing.T) {
	eachPrefix(t, func(l [][]byte, m int, old, root []byte, proof [][]byte) {
		for _, other := range allOlds(len(l)) {
			of, _ := impl.ConsOf(l, other)
			checkConsOk(t, fmt.Sprintf("the proof of %d leaves", other), m, len(l), old, root, of, other == m)
		}
		for i := range l {
			path, _ := impl.PathOf(l, i)
			// The path of a first leaf is the proof of this leaf as a prefix.
			first := i == 0 && m == 1 || m == len(l) && len(path) == 0
			checkConsOk(t, fmt.Sprintf("the path of leaf %d", i), m, len(l), old, root, path, first)
		}
	})
}

func TestDamagedPrefixProof(t *testing.T) {
	eachPrefix(t, func(l [][]byte, m int, old, root []byte, proof [][]byte) {
		for _, damaged := range damagedPaths(proof) {
			checkConsOk(t, "a damaged proof", m, len(l), old, root, damaged, false)
		}
		checkConsOk(t, "the old root before the proof", m, len(l), old, root, append([][]byte{old}, proof...), false)
		if len(proof) > 0 {
			checkConsOk(t, "no proof", m, len(l), old, root, nil, false)
			checkConsOk(t, "the old root as the first element", m, len(l), old, root, append([][]byte{old}, proof[1:]...), false)
		}
	})
}

// rootOfPart reports whether r is the root of the leaves from one place to another.
func rootOfPart(l [][]byte, from, to int, r []byte) bool {
	return from >= 0 && from < to && to <= len(l) && bytes.Equal(r, impl.TreeRoot(l[from:to]))
}

// Each element of a proof is the root of a part of the tree. All parts are the
// whole tree where the old leaves are not known as one part of it, and otherwise
// its other leaves.
func TestPrefixProofHasRootsOfParts(t *testing.T) {
	eachPrefix(t, func(l [][]byte, m int, old, root []byte, proof [][]byte) {
		from, to := m, m
		if m == len(l) || isPower(m) {
			from = 0
		}
		for at, r := range proof {
			found := false
			for size := 1; size <= len(l) && !found; size++ {
				switch {
				case rootOfPart(l, from-size, from, r):
					from, found = from-size, true
				case rootOfPart(l, to, to+size, r):
					to, found = to+size, true
				}
			}
			if !found {
				t.Errorf("%d of %d leaves: element %d is the root of no part beside", m, len(l), at)
			}
		}
		if from != 0 || to != len(l) {
			t.Errorf("%d of %d leaves: the parts are the leaves from %d to %d", m, len(l), from, to-1)
		}
	})
}
