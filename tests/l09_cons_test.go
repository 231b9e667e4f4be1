package tests

import (
	"bytes"
	"fmt"
	"math"
	"slices"
	"testing"

	"loop.example/g00790/impl"
)

// P12 for chapter 10: every function returns what the chapter specifies.

// writtenPartLen follows the chapter for a part of n leaves of which the first m are old.
func writtenPartLen(m, n int, known bool) int {
	if m == n && known {
		return 0
	}
	if m == n {
		return 1
	}
	k := doubled(n)
	if m <= k {
		return 1 + writtenPartLen(m, k, known)
	}
	return 1 + writtenPartLen(m-k, n-k, false)
}

// writtenConsLen follows the chapter.
func writtenConsLen(m, n int) int {
	if m < 1 || m > n || n > mostLeaves {
		return 0
	}
	return writtenPartLen(m, n, true)
}

// writtenPartCons follows the chapter for a part with the leaves l.
func writtenPartCons(l [][]byte, m int, known bool) [][]byte {
	if m == len(l) && known {
		return nil
	}
	if m == len(l) {
		return [][]byte{goRoot(l)}
	}
	k := doubled(len(l))
	if m <= k {
		return append(writtenPartCons(l[:k], m, known), goRoot(l[k:]))
	}
	return append(writtenPartCons(l[k:], m-k, false), goRoot(l[:k]))
}

// writtenCons follows the chapter, for an m from 1 to the number of leaves.
func writtenCons(l [][]byte, m int) [][]byte { return writtenPartCons(l, m, true) }

// writtenPartRoots follows the chapter for a part of n leaves of which the first m are old.
func writtenPartRoots(m, n int, old []byte, proof [][]byte, known bool) (a, b []byte) {
	if m == n && known {
		return old, old
	}
	if m == n {
		return proof[0], proof[0]
	}
	k, rest, r := doubled(n), proof[:len(proof)-1], proof[len(proof)-1]
	if m <= k {
		a, b = writtenPartRoots(m, k, old, rest, known)
		return a, goHash(1, b, r)
	}
	a, b = writtenPartRoots(m-k, n-k, old, rest, false)
	return goHash(1, r, a), goHash(1, r, b)
}

// writtenConsRoots follows the chapter, without its conditions.
func writtenConsRoots(m, n int, old []byte, proof [][]byte) (a, b []byte) {
	return writtenPartRoots(m, n, old, proof, true)
}

// someOlds returns numbers of old leaves of n, in ascending order: few, some at
// the split, some at the powers of two, and almost all.
func someOlds(n int) []int {
	k := impl.SplitAt(n)
	olds := []int{1, 2, 3, n / 3, k - 1, k, k + 1, k + k/2, n - 2, n - 1, n}
	for power := 4; power < n && power <= mostLeaves; power *= 4 {
		olds = append(olds, power-1, power, power+1)
	}
	olds = slices.DeleteFunc(olds, func(m int) bool { return m < 1 || m > n })
	slices.Sort(olds)
	return slices.Compact(olds)
}

// allOlds returns the numbers from 1 to n.
func allOlds(n int) []int {
	var olds []int
	for m := 1; m <= n; m++ {
		olds = append(olds, m)
	}
	return olds
}

// notOlds returns numbers that no prefix of n leaves has.
func notOlds(n int) []int {
	return []int{math.MinInt, math.MinInt + 1, -mostLeaves, -n - 1, -n, -2, -1, 0, n + 1, n + 2, 2*n + 1, n + mostLeaves, math.MaxInt - 1, math.MaxInt}
}

// bothCounts are numbers of leaves for tests that take many proofs of each.
var bothCounts = []int{1, 2, 3, 4, 5, 6, 7, 8, 9, 16, 17, 100, mostLeaves - 1, mostLeaves}

// isPower reports whether a prefix of m leaves is a perfect tree, whose root stays known.
func isPower(m int) bool { return m > 0 && m&(m-1) == 0 }

// checkConsLen reports an answer of ConsLen that is not as wanted.
func checkConsLen(t *testing.T, m, n, want int) {
	t.Helper()
	if got := impl.ConsLen(m, n); got != want {
		t.Errorf("ConsLen(%d, %d) = %d instead of %d", m, n, got, want)
	}
}

// checkCons reports a proof that is not as wanted.
func checkCons(t *testing.T, what string, l [][]byte, m int, want [][]byte) {
	t.Helper()
	got, ok := impl.ConsOf(l, m)
	if !ok || !sameList(got, want) {
		t.Errorf("%s: ConsOf %d leaves and %d: %x, %v instead of %x", what, len(l), m, got, ok, want)
	}
}

// checkNoCons reports a proof for a prefix that the list does not have.
func checkNoCons(t *testing.T, what string, l [][]byte, m int) {
	t.Helper()
	if got, ok := impl.ConsOf(l, m); ok || len(got) != 0 {
		t.Errorf("%s: ConsOf %d leaves and %d: %x, %v", what, len(l), m, got, ok)
	}
}

// checkRoots reports an answer of ConsRoots that is not as wanted.
func checkRoots(t *testing.T, what string, m, n int, old []byte, proof [][]byte, wantOld, wantNew []byte) {
	t.Helper()
	a, b, ok := impl.ConsRoots(m, n, old, proof)
	if !ok || !bytes.Equal(a, wantOld) || !bytes.Equal(b, wantNew) {
		t.Errorf("%s: ConsRoots of %d and %d: %x, %x, %v instead of %x, %x", what, m, n, a, b, ok, wantOld, wantNew)
	}
}

// checkNoRoots reports arguments that ConsRoots does not refuse.
func checkNoRoots(t *testing.T, what string, m, n int, old []byte, proof [][]byte) {
	t.Helper()
	if a, b, ok := impl.ConsRoots(m, n, old, proof); ok || len(a) != 0 || len(b) != 0 {
		t.Errorf("%s: ConsRoots of %d and %d with %d elements: %x, %x, %v", what, m, n, len(proof), a, b, ok)
	}
}

// checkConsRefused also reports arguments that ConsOk accepts, with any new root and with none.
func checkConsRefused(t *testing.T, what string, m, n int, old []byte, proof [][]byte) {
	t.Helper()
	checkNoRoots(t, what, m, n, old, proof)
	for _, root := range append([][]byte{nil, {}, old, goRoot(nil)}, proof...) {
		checkConsOk(t, what, m, n, old, root, proof, false)
	}
}

// checkConsOk reports an answer of ConsOk that is not as wanted.
func checkConsOk(t *testing.T, what string, m, n int, old, root []byte, proof [][]byte, want bool) {
	t.Helper()
	if got := impl.ConsOk(m, n, old, root, proof); got != want {
		t.Errorf("%s: ConsOk of %d and %d with %d elements, %x and %x: %v", what, m, n, len(proof), old, root, got)
	}
}

func TestKnownConsLengths(t *testing.T) {
	known := [][]int{
		{}, {0}, {1, 0}, {2, 1, 0}, {2, 1, 3, 0}, {3, 2, 4, 1, 0}, {3, 2, 4, 1, 3, 0}, {3, 2, 4, 1, 4, 3, 0},
		{3, 2, 4, 1, 4, 3, 4, 0}, {4, 3, 5, 2, 5, 4, 5, 1, 0}, {4, 3, 5, 2, 5, 4, 5, 1, 3, 0},
	}
	for n, lengths := range known {
		for i, want := range lengths {
			checkConsLen(t, i+1, n, want)
		}
	}
	most := mostLeaves
	for _, k := range [][3]int{
		{1, most, 20}, {2, most, 19}, {3, most, 21}, {most/2 - 1, most, 21}, {most / 2, most, 1},
		{most/2 + 1, most, 21}, {most - 2, most, 20}, {most - 1, most, 21}, {most, most, 0},
		{1, most - 1, 20}, {most - 2, most - 1, 20}, {most - 1, most - 1, 0},
		{most / 2, most/2 + 1, 1}, {most/2 - 1, most/2 + 1, 21}, {1, most/2 + 1, 20},
	} {
		checkConsLen(t, k[0], k[1], k[2])
	}
}

func TestConsLen(t *testing.T) {
	for n := -3; n < 260; n++ {
		for m := -3; m < n+4; m++ {
			checkConsLen(t, m, n, writtenConsLen(m, n))
		}
	}
	for _, n := range append(manyCounts(), notLeafCounts...) {
		for _, m := range append(someOlds(n), notOlds(n)...) {
			checkConsLen(t, m, n, writtenConsLen(m, n))
		}
	}
	for m := 1; m <= mostLeaves; m += 7 {
		checkConsLen(t, m, mostLeaves, writtenConsLen(m, mostLeaves))
		checkConsLen(t, m, mostLeaves-1, writtenConsLen(m, mostLeaves-1))
		checkConsLen(t, m, mostLeaves+1, 0)
	}
}

func TestConsLenOfExtremes(t *testing.T) {
	for _, m := range extremes {
		for _, n := range extremes {
			checkConsLen(t, m, n, writtenConsLen(m, n))
		}
		for _, n := range notLeafCounts {
			checkConsLen(t, m, n, 0)
		}
		checkConsLen(t, m, m, 0)
	}
	for _, n := range notLeafCounts {
		checkConsLen(t, n, n, 0)
		checkConsLen(t, 1, n, 0)
	}
}

// drawnCons are the proofs of the trees of chapter 7 as they are drawn, node by node.
func drawnCons(l [][]byte) [][][][]byte {
	h := make([][]byte, 7)
	for i := range h {
		h[i] = goHash(0, l[i])
	}
	node := func(a, b []byte) []byte { return goHash(1, a, b) }
	a, b, c := node(h[0], h[1]), node(h[2], h[3]), node(h[4], h[5])
	four := node(a, b)
	whole := func(rest []byte) [][][]byte {
		return [][][]byte{{h[1], b, rest}, {b, rest}, {h[2], h[3], a, rest}, {rest}}
	}
	return [][][][]byte{
		{},
		{{}},
		{{h[1]}, {}},
		{{h[1], h[2]}, {h[2]}, {}},
		{{h[1], b}, {b}, {h[2], h[3], a}, {}},
		append(whole(h[4]), [][]byte{}),
		append(whole(c), [][]byte{h[4], h[5], four}, [][]byte{}),
		append(whole(node(c, h[6])), [][]byte{h[4], h[5], h[6], four}, [][]byte{c, h[6], four}, [][]byte{}),
	}
}

func TestDrawnCons(t *testing.T) {
	for name, l := range someLists(7) {
		for n, proofs := range drawnCons(l) {
			for i, want := range proofs {
				checkCons(t, "drawn, "+name, l[:n], i+1, want)
			}
			checkNoCons(t, name, l[:n], 0)
			checkNoCons(t, name, l[:n], len(proofs)+1)
		}
	}
}

func TestConsOf(t *testing.T) {
	for n := range 34 {
		for name, l := range someLists(n) {
			for _, m := range allOlds(n) {
				checkCons(t, name, l, m, writtenCons(l, m))
			}
		}
	}
	for n := 34; n < 67; n++ {
		l := numbered(n)
		for _, m := range allOlds(n) {
			checkCons(t, "different", l, m, writtenCons(l, m))
		}
	}
	for _, n := range []int{127, 128, 129, 255, 256, 257, 1000, 1023, 1024, 1025, 4097} {
		l := numbered(n)
		for _, m := range someOlds(n) {
			checkCons(t, "many leaves", l, m, writtenCons(l, m))
		}
	}
}

// All lists of up to four leaves that are nil, empty, a byte or a hash.
func TestConsOfShortLists(t *testing.T) {
	for _, l := range shortLists(4, nil, []byte{}, []byte{0}, goHash(0)) {
		for _, m := range allOlds(len(l)) {
			checkCons(t, fmt.Sprintf("%v", l), l, m, writtenCons(l, m))
		}
	}
}

func TestConsOfNoPrefix(t *testing.T) {
	for _, n := range leafCounts {
		for name, l := range someLists(n) {
			for _, m := range notOlds(n) {
				checkNoCons(t, name, l, m)
			}
		}
	}
	for _, l := range [][][]byte{nil, {}, make([][]byte, 0, 8), numbered(5)[2:2]} {
		for _, m := range append(notOlds(0), extremes...) {
			checkNoCons(t, "an empty list", l, m)
		}
	}
	// The elements behind a list are no leaves of it.
	l := numbered(9)
	for n := range l {
		for m := n + 1; m <= len(l); m++ {
			checkNoCons(t, "the beginning of a list", l[:n], m)
		}
	}
}

func TestConsOfMostLeaves(t *testing.T) {
	t.Parallel()
	l := distinctLeaves(mostLeaves)
	for _, m := range []int{mostLeaves / 2, mostLeaves - 12345, mostLeaves} {
		want := writtenCons(l, m)
		checkCons(t, "the most leaves", l, m, want)
		checkConsLen(t, m, len(l), len(want))
		old := goRoot(l[:m])
		_, root := writtenConsRoots(m, len(l), old, want)
		checkRoots(t, "the most leaves", m, len(l), old, want, old, root)
		checkConsOk(t, "the most leaves", m, len(l), old, root, want, true)
	}
}

// ConsOf refuses only an m that is not from 1 to the number of leaves, so that a
// list that is too long for the other functions has proofs, but they are not accepted.
func TestConsOfTooManyLeaves(t *testing.T) {
	t.Parallel()
	l := distinctLeaves(mostLeaves + 1)
	for _, m := range []int{mostLeaves - 2, mostLeaves, mostLeaves + 1} {
		proof := writtenCons(l, m)
		checkCons(t, "a leaf more", l, m, proof)
		checkConsLen(t, m, len(l), 0)
		old := goRoot(l[:m])
		checkConsRefused(t, "a leaf more", m, len(l), old, proof)
		_, root := writtenConsRoots(m, len(l), old, proof)
		checkConsOk(t, "a leaf more", m, len(l), old, root, proof, false)
	}
	for _, m := range []int{0, mostLeaves + 2} {
		checkNoCons(t, "a leaf more", l, m)
	}
}

// Which elements of a proof belong to the old root, and on which sides they stand.
func TestDrawnConsRoots(t *testing.T) {
	old, a, b, c, d := goHash(3), goHash(4), goHash(5), goHash(6), goHash(7)
	node := func(a, b []byte) []byte { return goHash(1, a, b) }
	known := []struct {
		m, n   int
		proof  [][]byte
		before []byte
		after  []byte
	}{
		{1, 1, nil, old, old},
		{2, 2, [][]byte{}, old, old},
		{1, 2, [][]byte{a}, old, node(old, a)},
		{1, 3, [][]byte{a, b}, old, node(node(old, a), b)},
		{2, 3, [][]byte{a}, old, node(old, a)},
		{3, 3, nil, old, old},
		{1, 4, [][]byte{a, b}, old, node(node(old, a), b)},
		{2, 4, [][]byte{a}, old, node(old, a)},
		{3, 4, [][]byte{a, b, c}, node(c, a), node(c, node(a, b))},
		{2, 5, [][]byte{a, b}, old, node(node(old, a), b)},
		{3, 5, [][]byte{a, b, c, d}, node(c, a), node(node(c, node(a, b)), d)},
		{4, 5, [][]byte{a}, old, node(old, a)},
		{5, 6, [][]byte{a, b, c}, node(c, a), node(c, node(a, b))},
		{3, 7, [][]byte{a, b, c, d}, node(c, a), node(node(c, node(a, b)), d)},
		{4, 7, [][]byte{a}, old, node(old, a)},
		{5, 7, [][]byte{a, b, c, d}, node(d, a), node(d, node(node(a, b), c))},
		{6, 7, [][]byte{a, b, c}, node(c, a), node(c, node(a, b))},
		{6, 8, [][]byte{a, b, c}, node(c, a), node(c, node(a, b))},
		{7, 8, [][]byte{a, b, c, d}, node(d, node(c, a)), node(d, node(c, node(a, b)))},
		{8, 9, [][]byte{a}, old, node(old, a)},
		{mostLeaves / 2, mostLeaves/2 + 1, [][]byte{a}, old, node(old, a)},
		{mostLeaves / 2, mostLeaves, [][]byte{a}, old, node(old, a)},
		{mostLeaves, mostLeaves, nil, old, old},
	}
	for _, k := range known {
		checkRoots(t, "drawn", k.m, k.n, old, k.proof, k.before, k.after)
		checkConsOk(t, "drawn", k.m, k.n, k.before, k.after, k.proof, true)
	}
}

// Any hashes are a proof, also those of no tree.
func TestConsRoots(t *testing.T) {
	counts := manyCounts()
	for n := 1; n <= 130; n++ {
		counts = append(counts, n)
	}
	for _, n := range counts {
		olds := someOlds(n)
		if n <= 130 {
			olds = allOlds(n)
		}
		for _, m := range olds {
			proof := hashesFor(writtenConsLen(m, n))
			for _, old := range [][]byte{goHash(9), filled(32, 0), filled(32, 255)} {
				before, after := writtenConsRoots(m, n, old, proof)
				checkRoots(t, "any hashes", m, n, old, proof, before, after)
			}
			equal := slices.Repeat([][]byte{goHash(9)}, len(proof))
			before, after := writtenConsRoots(m, n, goHash(9), equal)
			checkRoots(t, "one hash", m, n, goHash(9), equal, before, after)
		}
	}
}

// Where the old leaves are a part of the tree, or all of it, the roots depend on
// old, and otherwise only on the proof.
func TestKnownAndUnknownParts(t *testing.T) {
	for n := 1; n <= 70; n++ {
		for _, m := range allOlds(n) {
			proof := hashesFor(writtenConsLen(m, n))
			one, two := goHash(9), goHash(10)
			a, b, _ := impl.ConsRoots(m, n, one, proof)
			c, d, _ := impl.ConsRoots(m, n, two, proof)
			what := fmt.Sprintf("%d of %d leaves", m, n)
			if m == n || isPower(m) {
				checkHash(t, what+", the old root", a, one)
				checkHash(t, what+", another old root", c, two)
				if bytes.Equal(b, d) || bytes.Equal(a, b) != (m == n) {
					t.Errorf("%s: the new roots are %x and %x", what, b, d)
				}
				continue
			}
			checkHash(t, what+", the old root", c, a)
			checkHash(t, what+", the new root", d, b)
			checkConsOk(t, what, m, n, a, b, proof, true)
			checkConsOk(t, what+", another old root", m, n, one, b, proof, false)
		}
	}
}

func TestConsRootsOfNoHash(t *testing.T) {
	for _, n := range bothCounts {
		for _, m := range someOlds(n) {
			proof := hashesFor(writtenConsLen(m, n))
			for _, old := range notHashes() {
				checkConsRefused(t, fmt.Sprintf("an old root of %d bytes", len(old)), m, n, old, proof)
			}
			before, after := writtenConsRoots(m, n, goHash(9), proof)
			for _, old := range [][]byte{nil, {}, before[:31], before[1:], append(slices.Clone(before), 0)} {
				checkConsRefused(t, "no old root", m, n, old, proof)
				checkConsOk(t, "no old root", m, n, old, after, proof, false)
			}
		}
	}
}

func TestConsRootsOfNoPrefix(t *testing.T) {
	for _, n := range bothCounts {
		for _, m := range notOlds(n) {
			for _, size := range []int{0, 1, 2, 3, 4, 7, 19, 20, 21, 22} {
				checkConsRefused(t, "no prefix", m, n, goHash(9), hashesFor(size))
			}
		}
	}
	for _, n := range notLeafCounts {
		for _, m := range append(someOlds(n), notOlds(n)...) {
			for _, size := range []int{0, 1, 2, 20, 21, 22, 23, 62, 63, 64} {
				checkConsRefused(t, "no number of leaves", m, n, goHash(9), hashesFor(size))
			}
		}
		checkConsRefused(t, "no number of leaves, all old", n, n, goHash(9), nil)
	}
	for _, m := range extremes {
		for _, n := range extremes {
			if m < 1 || m > n || n > mostLeaves {
				checkConsRefused(t, "extreme numbers", m, n, goHash(9), nil)
				checkConsRefused(t, "extreme numbers", m, n, goHash(9), hashesFor(8))
			}
		}
	}
}

func TestConsRootsOfOtherLengths(t *testing.T) {
	counts := append([]int{100, 128, 129, mostLeaves/2 + 1, mostLeaves - 1, mostLeaves}, leafCounts...)
	for _, n := range counts {
		for _, m := range someOlds(n) {
			size := writtenConsLen(m, n)
			for other := range size + 4 {
				if other != size {
					checkConsRefused(t, "another length", m, n, goHash(9), hashesFor(other))
				}
			}
			checkConsRefused(t, "twice the length", m, n, goHash(9), hashesFor(2*size+1))
		}
	}
	checkConsRefused(t, "a long proof", 1, 1, goHash(9), slices.Repeat([][]byte{goHash(9)}, 1000))
	checkConsRefused(t, "a long proof of nil", 1, 1, goHash(9), make([][]byte, 100))
	// One leaf is known, three leaves are not: then their last one is an element too.
	checkConsRefused(t, "the length of an unknown part", 1, 4, goHash(9), hashesFor(3))
	checkConsRefused(t, "the length of a known part", 3, 4, goHash(9), hashesFor(2))
}

// An element that is no hash is refused at every place of the proof.
func TestConsRootsOfNoHashes(t *testing.T) {
	counts := append([]int{100, 129, mostLeaves - 1, mostLeaves}, leafCounts...)
	for _, n := range counts {
		for _, m := range someOlds(n) {
			proof := hashesFor(writtenConsLen(m, n))
			for _, changed := range noHashesIn(proof) {
				checkConsRefused(t, "an element that is no hash", m, n, goHash(9), changed)
			}
			if len(proof) > 0 {
				checkConsRefused(t, "one element with all bytes", m, n, goHash(9), [][]byte{slices.Concat(proof...)[1:]})
			}
		}
	}
}

// ConsOk compares both roots, each with its own argument.
func TestConsOkOfOtherRoots(t *testing.T) {
	for _, n := range bothCounts {
		for _, m := range someOlds(n) {
			proof := hashesFor(writtenConsLen(m, n))
			old, root := writtenConsRoots(m, n, goHash(9), proof)
			checkConsOk(t, "both roots", m, n, old, root, proof, true)
			checkConsOk(t, "the roots exchanged", m, n, root, old, proof, m == n)
			checkConsOk(t, "the old root twice", m, n, old, old, proof, m == n)
			checkConsOk(t, "the new root twice", m, n, root, root, proof, m == n)
			for _, other := range append(wrongRoots(root), proof...) {
				checkConsOk(t, "another new root", m, n, old, other, proof, false)
			}
			for _, other := range append(wrongRoots(old), proof...) {
				checkConsOk(t, "another old root", m, n, other, root, proof, false)
			}
		}
	}
}
