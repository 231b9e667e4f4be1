package tests

import (
	"bytes"
	"fmt"
	"slices"
	"testing"

	"loop.example/g00790/impl"
)

// P7 for chapter 9: every leaf has an inclusion proof.

// checkHashes reports the elements of a proof that are no hashes.
func checkHashes(t *testing.T, what string, proof [][]byte) {
	t.Helper()
	for at, r := range proof {
		if len(r) != 32 {
			t.Errorf("%s: element %d has %d bytes", what, at, len(r))
		}
	}
}

// checkProof checks that leaf i of l has a proof, which leads from the leaf to root.
func checkProof(t *testing.T, what string, l [][]byte, i int, root []byte) [][]byte {
	t.Helper()
	n := len(l)
	what = fmt.Sprintf("%s, leaf %d of %d", what, i, n)
	path, ok := impl.PathOf(l, i)
	if !ok || len(path) != impl.PathLen(i, n) {
		t.Errorf("%s: PathOf: %v with %d elements, but PathLen is %d", what, ok, len(path), impl.PathLen(i, n))
	}
	checkHashes(t, what, path)
	got, ok := impl.PathRoot(impl.LeafHash(l[i]), i, n, path)
	if !ok || !bytes.Equal(got, root) {
		t.Errorf("%s: PathRoot: %x, %v instead of %x", what, got, ok, root)
	}
	checkOk(t, what, l[i], i, n, path, root, true)
	return path
}

// checkProofs checks that every leaf of l has a proof, and that nothing else has.
func checkProofs(t *testing.T, what string, l [][]byte) {
	t.Helper()
	root := impl.TreeRoot(l)
	for i := range l {
		checkProof(t, what, l, i, root)
	}
	for _, i := range notLeaves(len(l)) {
		checkNoPath(t, what, l, i)
	}
}

func TestEveryLeafHasProof(t *testing.T) {
	for n := range 40 {
		for name, l := range someLists(n) {
			checkProofs(t, name, l)
		}
	}
	for _, n := range append([]int{40, 41, 47, 48, 49, 50, 96, 100, 127, 128, 129, 130}, leafCounts...) {
		checkProofs(t, "different", numbered(n))
	}
}

func TestSomeLeavesOfManyHaveProofs(t *testing.T) {
	for _, n := range []int{255, 256, 257, 511, 512, 513, 1000, 1023, 1024, 1025, 4097, 20000} {
		l := numbered(n)
		root := impl.TreeRoot(l)
		for _, i := range someLeaves(n) {
			checkProof(t, "many leaves", l, i, root)
		}
		for _, i := range notLeaves(n) {
			checkNoPath(t, "many leaves", l, i)
		}
	}
}

// The proof also leads to the root of the incremental tree.
func TestProofsOfIncrementalTree(t *testing.T) {
	l := numbered(33)
	var s impl.Stack
	for n := 1; n <= len(l); n++ {
		s = pushAll(t, s, l[n-1:n])
		for i := range n {
			checkProof(t, "pushed", l[:n], i, impl.StackRoot(s))
		}
	}
}

// The paths are known from the tests of Certificate Transparency, whose trees
// (RFC 6962) are those of the chapter.
func TestKnownProofs(t *testing.T) {
	known := []struct {
		i, n int
		path []string
		root string
	}{
		{0, 1, nil, "6e340b9cffb37a989ca544e6bb780a2c78901d3fb33738768511a30617afa01d"},
		{0, 8, []string{
			"96a296d224f285c67bee93c30f8a309157f0daa35dc5b87e410b78630a09cfc7",
			"5f083f0a1a33ca076a95279832580db3e0ef4584bdff1f54c8a360f50de3031e",
			"6b47aaf29ee3c2af9af889bc1fb9254dabd31177f16232dd6aab035ca39bf6e4",
		}, "5dc9da79a70659a9ad559cb701ded9a2ab9d823aad2f4960cfe370eff4604328"},
		{5, 8, []string{
			"bc1a0643b12e4d2d7c77918f44e0f4f79a838b6cf9ec5b5c283e1f4d88599e6b",
			"ca854ea128ed050b41b35ffc1b87b8eb2bde461e9e3b5596ece6b9d5975a0ae0",
			"d37ee418976dd95753c1c73862b9398fa2a2cf9b4ff0fdfe8b30cd95209614b7",
		}, "5dc9da79a70659a9ad559cb701ded9a2ab9d823aad2f4960cfe370eff4604328"},
		{2, 3, []string{
			"fac54203e7cc696cf0dfcb42c92a1d9dbaf70ad9e621f4bd8d98662f00e3c125",
		}, "aeb6bcfe274b70a14fb067a5e5578264db0fa9b51af5e0ba159158f329e06e77"},
		{1, 5, []string{
			"6e340b9cffb37a989ca544e6bb780a2c78901d3fb33738768511a30617afa01d",
			"5f083f0a1a33ca076a95279832580db3e0ef4584bdff1f54c8a360f50de3031e",
			"bc1a0643b12e4d2d7c77918f44e0f4f79a838b6cf9ec5b5c283e1f4d88599e6b",
		}, "4e3bbb1f7b478dcfe71fb631631519a3bca12c9aefca1612bfce4c13a86264d4"},
	}
	for _, k := range known {
		var want [][]byte
		for _, s := range k.path {
			want = append(want, fromHex(t, s))
		}
		path := checkProof(t, "known", knownLeaves(t)[:k.n], k.i, fromHex(t, k.root))
		checkPath(t, fmt.Sprintf("leaf %d of %d known ones", k.i, k.n), path, true, want)
	}
}

// proofCounts are those of the trees whose proofs are damaged.
var proofCounts = []int{1, 2, 3, 4, 5, 6, 7, 8, 9, 15, 16, 17}

// eachProof calls f for every leaf of trees of different leaves.
func eachProof(t *testing.T, f func(l [][]byte, i int, path [][]byte, root []byte)) {
	t.Helper()
	for _, n := range proofCounts {
		l := numbered(n)
		root := impl.TreeRoot(l)
		for i := range l {
			f(l, i, checkProof(t, "undamaged", l, i, root), root)
		}
	}
}

// No other leaf has the proof of a leaf, and neither has a changed one.
func TestProofIsOfItsLeaf(t *testing.T) {
	eachProof(t, func(l [][]byte, i int, path [][]byte, root []byte) {
		others := slices.Delete(slices.Clone(l), i, i+1)
		others = append(others, nil, []byte{}, []byte{0}, root, impl.LeafHash(l[i]), append(slices.Clone(l[i]), 0), l[i][1:])
		others = append(others, path...)
		for at := range l[i] {
			changed := bytes.Clone(l[i])
			changed[at] ^= 128
			others = append(others, changed)
		}
		for _, x := range others {
			checkOk(t, "another leaf", x, i, len(l), path, root, false)
		}
	})
}

// A node of the tree is no leaf, also where the rest of a proof leads from it to the root.
func TestNodeHasNoProof(t *testing.T) {
	eachProof(t, func(l [][]byte, i int, path [][]byte, root []byte) {
		if len(path) == 0 {
			return
		}
		leaf := impl.LeafHash(l[i])
		for n := 1; n <= len(l); n++ {
			for j := range n {
				checkOk(t, "a node", slices.Concat(leaf, path[0]), j, n, path[1:], root, false)
				checkOk(t, "a node", slices.Concat(path[0], leaf), j, n, path[1:], root, false)
			}
		}
	})
}

// sidesOf tells on which side of a path each of its elements stands, from the leaf on.
func sidesOf(i, n int) string {
	if n == 1 {
		return ""
	}
	k := doubled(n)
	if i < k {
		return sidesOf(i, k) + "r"
	}
	return sidesOf(i-k, n-k) + "l"
}

// A proof with the index or the number of leaves of another is accepted only if
// all its elements stand on the same sides there: in a tree of another number of
// leaves this is possible, since the root does not contain the number.
func TestProofIsOfItsPlace(t *testing.T) {
	eachProof(t, func(l [][]byte, i int, path [][]byte, root []byte) {
		n := len(l)
		for m := 1; m <= 34; m++ {
			for j := range m {
				same := sidesOf(i, n) == sidesOf(j, m)
				if m == n && same != (i == j) {
					t.Fatalf("leaves %d and %d of %d stand on the same sides", i, j, n)
				}
				checkOk(t, fmt.Sprintf("the proof of leaf %d of %d", i, n), l[i], j, m, path, root, same)
			}
		}
		for _, j := range notLeaves(n) {
			checkOk(t, "no leaf", l[i], j, n, path, root, false)
		}
		for _, m := range notLeafCounts {
			checkOk(t, "no number of leaves", l[i], i, m, path, root, false)
		}
	})
}

// damagedPaths returns paths of which an element is changed, left out, exchanged or added.
func damagedPaths(path [][]byte) [][][]byte {
	damaged := [][][]byte{append(slices.Clone(path), goHash(0)), append([][]byte{goHash(0)}, path...), append(slices.Clone(path), nil)}
	for at, r := range path {
		for byteAt := range r {
			changed := deepClone(path)
			changed[at][byteAt] ^= 1 << (byteAt % 8)
			damaged = append(damaged, changed)
		}
		for _, other := range [][]byte{nil, {}, r[:31], append(slices.Clone(r), 0), goHash(0), filled(32, 0)} {
			damaged = append(damaged, slices.Replace(slices.Clone(path), at, at+1, other))
		}
		damaged = append(damaged, slices.Delete(slices.Clone(path), at, at+1), slices.Insert(slices.Clone(path), at, r))
		for other := range at {
			exchanged := slices.Clone(path)
			exchanged[at], exchanged[other] = path[other], path[at]
			damaged = append(damaged, exchanged)
		}
	}
	return damaged
}

func TestDamagedProof(t *testing.T) {
	eachProof(t, func(l [][]byte, i int, path [][]byte, root []byte) {
		for _, damaged := range damagedPaths(path) {
			checkOk(t, "a damaged proof", l[i], i, len(l), damaged, root, false)
		}
		if len(path) > 0 {
			checkOk(t, "no proof", l[i], i, len(l), nil, root, false)
			checkOk(t, "the leaf instead of its neighbor", l[i], i, len(l), append([][]byte{impl.LeafHash(l[i])}, path[1:]...), root, false)
		}
	})
}

// The proof of another leaf is no proof, though it leads to the same root.
func TestProofOfOtherLeaf(t *testing.T) {
	eachProof(t, func(l [][]byte, i int, path [][]byte, root []byte) {
		for j := range l {
			other, _ := impl.PathOf(l, j)
			checkOk(t, fmt.Sprintf("the proof of leaf %d", j), l[i], i, len(l), other, root, i == j)
		}
	})
}

// The proof does not hold for the root of another tree.
func TestProofIsOfItsTree(t *testing.T) {
	eachProof(t, func(l [][]byte, i int, path [][]byte, root []byte) {
		roots := append(wrongRoots(root), impl.TreeRoot(append(slices.Clone(l), nil)), impl.TreeRoot(l[:len(l)-1]))
		for j := range l {
			changed := deepClone(l)
			changed[j][0] ^= 1
			roots = append(roots, impl.TreeRoot(changed))
			other, ok := impl.PathOf(changed, i)
			checkOk(t, "the proof of a changed tree", l[i], i, len(l), other, root, ok && i == j)
		}
		for _, other := range roots {
			checkOk(t, "the root of another tree", l[i], i, len(l), path, other, false)
		}
	})
}

// Each element of a proof is the root of a part of the tree, and all parts and
// the leaf are the whole tree.
func TestProofHasRootsOfParts(t *testing.T) {
	eachProof(t, func(l [][]byte, i int, path [][]byte, root []byte) {
		from, to := i, i+1
		sides := sidesOf(i, len(l))
		for at, r := range path {
			size := 0
			for size = 1; size <= len(l); size++ {
				if sides[at] == 'r' && to+size <= len(l) && bytes.Equal(r, impl.TreeRoot(l[to:to+size])) {
					to += size
					break
				}
				if sides[at] == 'l' && from-size >= 0 && bytes.Equal(r, impl.TreeRoot(l[from-size:from])) {
					from -= size
					break
				}
			}
			if size > len(l) {
				t.Errorf("leaf %d of %d: element %d is the root of no part beside", i, len(l), at)
			}
		}
		if from != 0 || to != len(l) {
			t.Errorf("leaf %d of %d: the parts are the leaves from %d to %d", i, len(l), from, to-1)
		}
	})
}
