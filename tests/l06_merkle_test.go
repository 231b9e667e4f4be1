package tests

import (
	"bytes"
	"crypto/sha256"
	"encoding/hex"
	"fmt"
	"math"
	"slices"
	"testing"

	"loop.example/g00790/impl"
)

// P12 for chapter 7: every function returns what the chapter specifies.

// leafCounts are those at which a tree has a whole level, and their neighbors.
var leafCounts = []int{0, 1, 2, 3, 4, 5, 6, 7, 8, 9, 10, 15, 16, 17, 31, 32, 33, 63, 64, 65}

// goHash returns the hash of all parts behind a mark that Go computes.
func goHash(mark byte, parts ...[]byte) []byte {
	sum := sha256.Sum256(slices.Concat([]byte{mark}, slices.Concat(parts...)))
	return sum[:]
}

// goRoot computes the root level by level: two neighbors have a node above them,
// and a last one without a neighbor takes its place in the next level itself.
func goRoot(l [][]byte) []byte {
	if len(l) == 0 {
		sum := sha256.Sum256(nil)
		return sum[:]
	}
	var level [][]byte
	for _, x := range l {
		level = append(level, goHash(0, x))
	}
	for len(level) > 1 {
		var next [][]byte
		for pair := range slices.Chunk(level, 2) {
			if len(pair) == 2 {
				pair = [][]byte{goHash(1, pair[0], pair[1])}
			}
			next = append(next, pair[0])
		}
		level = next
	}
	return level[0]
}

// doubled returns the greatest power of two that is less than n, for n from 2.
func doubled(n int) int {
	k := 1
	for k < n-k {
		k *= 2
	}
	return k
}

// writtenRoot follows the chapter.
func writtenRoot(l [][]byte) []byte {
	if len(l) == 0 {
		sum := sha256.Sum256(nil)
		return sum[:]
	}
	if len(l) == 1 {
		return goHash(0, l[0])
	}
	k := doubled(len(l))
	return goHash(1, writtenRoot(l[:k]), writtenRoot(l[k:]))
}

// numbered returns n leaves that differ from each other, some of them longer than a block.
func numbered(n int) [][]byte {
	l := make([][]byte, n)
	for i := range l {
		l[i] = append(mixedBytes(i%70, i), byte(i), byte(i/256))
	}
	return l
}

// someLists returns lists of n elements: different and equal ones, empty ones
// and nil, and hashes.
func someLists(n int) map[string][][]byte {
	turns := make([][]byte, n)
	hashes := make([][]byte, n)
	for i := range n {
		turns[i] = [][]byte{nil, {}, {0}, {1}}[i%4]
		hashes[i] = goHash(byte(i%2), []byte{byte(i)})
	}
	return map[string][][]byte{
		"different": numbered(n),
		"equal":     slices.Repeat([][]byte{[]byte("leaf")}, n),
		"zero":      slices.Repeat([][]byte{{0}}, n),
		"empty":     slices.Repeat([][]byte{{}}, n),
		"nil":       make([][]byte, n),
		"in turns":  turns,
		"hashes":    hashes,
		"long":      slices.Repeat([][]byte{mixedBytes(300, n)}, n),
	}
}

// fromHex decodes a string of the tests.
func fromHex(t *testing.T, s string) []byte {
	t.Helper()
	b, err := hex.DecodeString(s)
	if err != nil {
		t.Fatal(err)
	}
	return b
}

// checkSplit reports an answer of SplitAt that is not as wanted.
func checkSplit(t *testing.T, n, want int) {
	t.Helper()
	if got := impl.SplitAt(n); got != want {
		t.Errorf("SplitAt(%d) = %d instead of %d", n, got, want)
	}
}

func TestKnownSplits(t *testing.T) {
	known := [][2]int{
		{2, 1}, {3, 2}, {4, 2}, {5, 4}, {6, 4}, {7, 4}, {8, 4}, {9, 8}, {10, 8}, {15, 8}, {16, 8}, {17, 16},
		{100, 64}, {1000, 512}, {1024, 512}, {1025, 1024}, {1048576, 524288}, {1048577, 1048576},
		{4294967296, 2147483648}, {4294967297, 4294967296}, {math.MaxInt, 4611686018427387904},
	}
	for _, k := range known {
		checkSplit(t, k[0], k[1])
	}
}

func TestSplitBelowTwo(t *testing.T) {
	for _, n := range []int{1, 0, -1, -2, -3, -4, -5, -7, -8, -9, -1024, -1 << 31, -1 << 32, -1 << 62, math.MinInt + 2, math.MinInt + 1, math.MinInt} {
		checkSplit(t, n, 0)
	}
	for n := -5000; n < 2; n++ {
		checkSplit(t, n, 0)
	}
}

// A power of two splits in halves, the number above it splits at it.
func TestSplitAtPowers(t *testing.T) {
	for bit := 1; bit < 63; bit++ {
		power := 1 << bit
		checkSplit(t, power, power/2)
		checkSplit(t, power+1, power)
		if bit > 1 {
			checkSplit(t, power-1, power/2)
			checkSplit(t, power+power/2, power)
		}
	}
	checkSplit(t, math.MaxInt-1, 1<<62)
	checkSplit(t, math.MaxInt, 1<<62)
}

func TestSplitAt(t *testing.T) {
	for n := 2; n < 70000; n++ {
		checkSplit(t, n, doubled(n))
	}
}

// Two of them are known from the tests of Certificate Transparency, whose trees
// (RFC 6962) are those of the chapter; the third is Sha of two zero bytes.
func TestKnownLeaves(t *testing.T) {
	known := map[string]string{
		"":        "6e340b9cffb37a989ca544e6bb780a2c78901d3fb33738768511a30617afa01d",
		"L123456": "395aa064aa4c29f7010acfe3f25db9485bbd4b91897b6ad7ad547639252b4d56",
		"\x00":    "96a296d224f285c67bee93c30f8a309157f0daa35dc5b87e410b78630a09cfc7",
	}
	for x, want := range known {
		checkHash(t, fmt.Sprintf("LeafHash(%q)", x), impl.LeafHash([]byte(x)), fromHex(t, want))
	}
}

func TestKnownNode(t *testing.T) {
	want := fromHex(t, "aa217fe888e47007fa15edab33c2b492a722cb106c64667fc2b044444de66bbb")
	checkHash(t, "a known node", impl.NodeHash([]byte("N123"), []byte("N456")), want)
}

// knownLeaves are those of the tests of Certificate Transparency.
func knownLeaves(t *testing.T) [][]byte {
	t.Helper()
	var l [][]byte
	for _, s := range []string{"", "00", "10", "2021", "3031", "40414243", "5051525354555657", "606162636465666768696a6b6c6d6e6f"} {
		l = append(l, fromHex(t, s))
	}
	return l
}

func TestKnownRoots(t *testing.T) {
	known := []string{
		"e3b0c44298fc1c149afbf4c8996fb92427ae41e4649b934ca495991b7852b855",
		"6e340b9cffb37a989ca544e6bb780a2c78901d3fb33738768511a30617afa01d",
		"fac54203e7cc696cf0dfcb42c92a1d9dbaf70ad9e621f4bd8d98662f00e3c125",
		"aeb6bcfe274b70a14fb067a5e5578264db0fa9b51af5e0ba159158f329e06e77",
		"d37ee418976dd95753c1c73862b9398fa2a2cf9b4ff0fdfe8b30cd95209614b7",
		"4e3bbb1f7b478dcfe71fb631631519a3bca12c9aefca1612bfce4c13a86264d4",
		"76e67dadbcdf1e10e1b74ddc608abd2f98dfb16fbce75277b5232a127f2087ef",
		"ddb89be403809e325750d3d263cd78929c2942b7942a34b77e122c9594a74c8c",
		"5dc9da79a70659a9ad559cb701ded9a2ab9d823aad2f4960cfe370eff4604328",
	}
	for n, want := range known {
		checkHash(t, fmt.Sprintf("TreeRoot of %d known leaves", n), impl.TreeRoot(knownLeaves(t)[:n]), fromHex(t, want))
	}
	want := fromHex(t, "e2da0242936eb38ec996a543601b3a1da4226391ff92014ed1a7a248ace36347")
	checkHash(t, "TreeRoot of three leaves", impl.TreeRoot([][]byte{{1}, {2}, {3}}), want)
}

func TestLeafHash(t *testing.T) {
	for n := range 260 {
		for _, x := range [][]byte{filled(n, 0), filled(n, 1), filled(n, 255), mixedBytes(n, 3)} {
			checkHash(t, fmt.Sprintf("LeafHash(%v)", x), impl.LeafHash(x), goHash(0, x))
		}
	}
	for c := range 256 {
		x := []byte{byte(c)}
		checkHash(t, fmt.Sprintf("LeafHash(%v)", x), impl.LeafHash(x), goHash(0, x))
	}
	for _, n := range []int{4096, 65535, 1 << 20} {
		x := mixedBytes(n, 5)
		checkHash(t, fmt.Sprintf("LeafHash of %d bytes", n), impl.LeafHash(x), goHash(0, x))
	}
}

// someParts are byte strings for nodes, most of them no hashes.
func someParts() [][]byte {
	parts := append(someStrings(), goHash(0), goHash(1), filled(32, 255), filled(31, 7), filled(33, 7))
	for _, n := range padLengths {
		parts = append(parts, mixedBytes(n, n))
	}
	return parts
}

func TestNodeHash(t *testing.T) {
	for _, a := range someParts() {
		for _, b := range someParts() {
			checkHash(t, fmt.Sprintf("NodeHash(%v, %v)", a, b), impl.NodeHash(a, b), goHash(1, a, b))
		}
	}
	for _, n := range []int{4096, 65535, 1 << 20} {
		x, hash := mixedBytes(n, 5), goHash(0)
		checkHash(t, fmt.Sprintf("NodeHash of %d bytes and a hash", n), impl.NodeHash(x, hash), goHash(1, x, hash))
		checkHash(t, fmt.Sprintf("NodeHash of a hash and %d bytes", n), impl.NodeHash(hash, x), goHash(1, hash, x))
	}
}

func TestTreeRoot(t *testing.T) {
	for n := range 140 {
		for name, l := range someLists(n) {
			what := fmt.Sprintf("TreeRoot of %d leaves, %s", n, name)
			got := impl.TreeRoot(l)
			checkHash(t, what, got, goRoot(l))
			checkHash(t, what+", written out", got, writtenRoot(l))
		}
	}
}

// shortLists returns all lists of up to most elements that are among parts.
func shortLists(most int, parts ...[]byte) [][][]byte {
	all := [][][]byte{nil}
	lists := all
	for range most {
		var longer [][][]byte
		for _, l := range lists {
			for _, x := range parts {
				longer = append(longer, append(slices.Clone(l), x))
			}
		}
		all, lists = append(all, longer...), longer
	}
	return all
}

// All lists of up to six leaves that are empty, a byte or a hash.
func TestTreeRootOfShortLists(t *testing.T) {
	for _, l := range shortLists(6, nil, []byte{0}, goHash(0)) {
		checkHash(t, fmt.Sprintf("TreeRoot(%v)", l), impl.TreeRoot(l), goRoot(l))
	}
}

func TestTreeRootOfManyLeaves(t *testing.T) {
	for _, n := range []int{255, 256, 257, 511, 512, 513, 1000, 1023, 1024, 1025, 4097, 20000} {
		l := numbered(n)
		checkHash(t, fmt.Sprintf("TreeRoot of %d leaves", n), impl.TreeRoot(l), goRoot(l))
	}
	nils := make([][]byte, 1<<16+1)
	checkHash(t, "TreeRoot of many nil", impl.TreeRoot(nils), goRoot(nils))
}

func TestTreeRootOfLongLeaves(t *testing.T) {
	for _, n := range []int{1, 2, 3, 5} {
		l := make([][]byte, n)
		for i := range l {
			l[i] = mixedBytes(100000+i, i)
		}
		checkHash(t, fmt.Sprintf("TreeRoot of %d long leaves", n), impl.TreeRoot(l), goRoot(l))
	}
}

// checkSame reports an answer of TreeSame, in either order, that is not as wanted.
func checkSame(t *testing.T, what string, a, b [][]byte, want bool) {
	t.Helper()
	if got := impl.TreeSame(a, b); got != want {
		t.Errorf("TreeSame, %s: %v for %v and %v", what, got, a, b)
	}
	if got := impl.TreeSame(b, a); got != want {
		t.Errorf("TreeSame, %s, exchanged: %v for %v and %v", what, got, b, a)
	}
}

// deepClone copies a list and its elements.
func deepClone(l [][]byte) [][]byte {
	out := slices.Clone(l)
	for i := range out {
		out[i] = bytes.Clone(l[i])
	}
	return out
}

func TestTreeSame(t *testing.T) {
	for _, n := range leafCounts {
		for name, l := range someLists(n) {
			checkSame(t, name+", itself", l, l, true)
			checkSame(t, name+", a copy", l, deepClone(l), true)
			checkSame(t, name+", an element more", l, append(slices.Clone(l), nil), false)
			checkSame(t, name+", an element before", l, append([][]byte{{}}, l...), false)
			if n > 0 {
				checkSame(t, name+", the first one is missing", l, l[1:], false)
				checkSame(t, name+", the last one is missing", l, l[:n-1], false)
				checkSame(t, name+", none", l, nil, false)
			}
		}
	}
}

// A nil slice and an empty one are equivalent, as lists and as elements.
func TestTreeSameOfNil(t *testing.T) {
	checkSame(t, "nil", nil, nil, true)
	checkSame(t, "nil and empty", nil, [][]byte{}, true)
	checkSame(t, "an element nil", [][]byte{nil}, [][]byte{{}}, true)
	checkSame(t, "elements nil and empty", [][]byte{nil, {}, nil, {}}, [][]byte{{}, nil, nil, {}}, true)
	checkSame(t, "nil beside others", [][]byte{{1}, nil, {2}}, [][]byte{{1}, {}, {2}}, true)
	checkSame(t, "nothing and nil", nil, [][]byte{nil}, false)
	checkSame(t, "nothing and an empty element", nil, [][]byte{{}}, false)
	checkSame(t, "nil and a zero byte", [][]byte{nil}, [][]byte{{0}}, false)
	checkSame(t, "empty and a zero byte", [][]byte{{}}, [][]byte{{0}}, false)
}

// Every byte of every element counts, the first and the last ones too.
func TestTreeSameFindsChangedBytes(t *testing.T) {
	for _, n := range []int{1, 2, 3, 5, 9} {
		l := make([][]byte, n)
		for i := range l {
			l[i] = mixedBytes(1+i%4, i)
		}
		for i := range l {
			for at := range l[i] {
				for bit := range 8 {
					changed := deepClone(l)
					changed[i][at] ^= 1 << bit
					checkSame(t, fmt.Sprintf("element %d changed", i), l, changed, false)
				}
			}
		}
	}
}

func TestTreeSameFindsOtherLengths(t *testing.T) {
	for _, n := range []int{1, 2, 3, 5, 9} {
		l := numbered(n)
		for i := range l {
			shorter, longer, before, empty := deepClone(l), deepClone(l), deepClone(l), deepClone(l)
			shorter[i] = shorter[i][:len(l[i])-1]
			longer[i] = append(longer[i], 0)
			before[i] = append([]byte{0}, before[i]...)
			empty[i] = nil
			checkSame(t, fmt.Sprintf("element %d is shorter", i), l, shorter, false)
			checkSame(t, fmt.Sprintf("element %d is longer", i), l, longer, false)
			checkSame(t, fmt.Sprintf("element %d has a byte before", i), l, before, false)
			checkSame(t, fmt.Sprintf("element %d is empty", i), l, empty, false)
		}
	}
}

// Corresponding elements are compared, and where one ends matters.
func TestTreeSameFindsOtherOrders(t *testing.T) {
	checkSame(t, "exchanged", [][]byte{{1}, {2}}, [][]byte{{2}, {1}}, false)
	checkSame(t, "turned", [][]byte{{1}, {2}, {3}}, [][]byte{{2}, {3}, {1}}, false)
	checkSame(t, "one twice", [][]byte{{1}, {1}, {2}}, [][]byte{{1}, {2}, {2}}, false)
	checkSame(t, "cut elsewhere", [][]byte{{1}, {2, 3}}, [][]byte{{1, 2}, {3}}, false)
	checkSame(t, "all in one", [][]byte{{1, 2, 3}, nil}, [][]byte{nil, {1, 2, 3}}, false)
	checkSame(t, "joined", [][]byte{{1}, {2}}, [][]byte{{1, 2}}, false)
	l := numbered(9)
	for i := range l {
		for j := range i {
			changed := slices.Clone(l)
			changed[i], changed[j] = l[j], l[i]
			checkSame(t, fmt.Sprintf("elements %d and %d exchanged", i, j), l, changed, false)
		}
	}
}

// A root identifies its leaves, but a list that holds the root is another list.
func TestTreeSameOfRoots(t *testing.T) {
	one, all := [][]byte{[]byte("leaf")}, numbered(4)
	checkSame(t, "a root and its leaf", one, [][]byte{impl.TreeRoot(one)}, false)
	checkSame(t, "a root and its leaves", all, [][]byte{impl.TreeRoot(all)}, false)
}
