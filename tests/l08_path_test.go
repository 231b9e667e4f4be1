package tests

import (
	"bytes"
	"fmt"
	"math"
	"slices"
	"testing"

	"loop.example/g00790/impl"
)

// P12 for chapter 9: every function returns what the chapter specifies.

// mostLeaves is the greatest number of leaves of a tree whose paths have a length.
const mostLeaves = 1048576

// notLeafCounts are no numbers of leaves of such a tree.
var notLeafCounts = []int{math.MinInt, math.MinInt + 1, -mostLeaves, -2, -1, 0, mostLeaves + 1, mostLeaves + 2, 2 * mostLeaves, 1<<32 + 1, math.MaxInt - 1, math.MaxInt}

// writtenLen follows the chapter.
func writtenLen(i, n int) int {
	if i < 0 || i >= n || n > mostLeaves || n == 1 {
		return 0
	}
	k := doubled(n)
	if i < k {
		return 1 + writtenLen(i, k)
	}
	return 1 + writtenLen(i-k, n-k)
}

// writtenPath follows the chapter, for a leaf of the list.
func writtenPath(l [][]byte, i int) [][]byte {
	if len(l) == 1 {
		return nil
	}
	k := doubled(len(l))
	if i < k {
		return append(writtenPath(l[:k], i), goRoot(l[k:]))
	}
	return append(writtenPath(l[k:], i-k), goRoot(l[:k]))
}

// writtenPathRoot follows the chapter, without its conditions.
func writtenPathRoot(h []byte, i, n int, path [][]byte) []byte {
	if n == 1 {
		return h
	}
	k, rest, r := doubled(n), path[:len(path)-1], path[len(path)-1]
	if i < k {
		return goHash(1, writtenPathRoot(h, i, k, rest), r)
	}
	return goHash(1, r, writtenPathRoot(h, i-k, n-k, rest))
}

// hashesFor returns n hashes that differ from each other.
func hashesFor(n int) [][]byte {
	var path [][]byte
	for i := range n {
		path = append(path, goHash(8, []byte{byte(i)}))
	}
	return path
}

// notLeaves returns indices at which n leaves have none.
func notLeaves(n int) []int {
	return []int{math.MinInt, math.MinInt + 1, -mostLeaves, -n - 1, -n, -2, -1, n, n + 1, n + 2, 2*n + 1, n + mostLeaves, math.MaxInt - 1, math.MaxInt}
}

// someLeaves returns the first, the last and some middle ones of n leaves, in ascending order.
func someLeaves(n int) []int {
	var places []int
	k := impl.SplitAt(n)
	for _, i := range []int{0, 1, 2, 3, n / 3, k - 2, k - 1, k, k + 1, n - 3, n - 2, n - 1} {
		if i >= 0 && i < n {
			places = append(places, i)
		}
	}
	slices.Sort(places)
	return slices.Compact(places)
}

// manyCounts are numbers of leaves at the powers of two up to mostLeaves.
func manyCounts() []int {
	var counts []int
	for power := 128; power <= mostLeaves; power *= 2 {
		counts = append(counts, power-2, power-1, power, power+1, power+power/2)
	}
	return slices.DeleteFunc(counts, func(n int) bool { return n > mostLeaves })
}

func sameList(a, b [][]byte) bool { return slices.EqualFunc(a, b, bytes.Equal) }

// checkLen reports an answer of PathLen that is not as wanted.
func checkLen(t *testing.T, i, n, want int) {
	t.Helper()
	if got := impl.PathLen(i, n); got != want {
		t.Errorf("PathLen(%d, %d) = %d instead of %d", i, n, got, want)
	}
}

// checkPath reports a path that is not as wanted.
func checkPath(t *testing.T, what string, got [][]byte, ok bool, want [][]byte) {
	t.Helper()
	if !ok || !sameList(got, want) {
		t.Errorf("%s: %x, %v instead of %x", what, got, ok, want)
	}
}

// checkNoPath reports a path at an index at which the list has no leaf.
func checkNoPath(t *testing.T, what string, l [][]byte, i int) {
	t.Helper()
	if got, ok := impl.PathOf(l, i); ok || len(got) != 0 {
		t.Errorf("%s: PathOf %d leaves and %d: %x, %v", what, len(l), i, got, ok)
	}
}

// checkRoot reports an answer of PathRoot that is not as wanted.
func checkRoot(t *testing.T, what string, h []byte, i, n int, path [][]byte, want []byte) {
	t.Helper()
	if got, ok := impl.PathRoot(h, i, n, path); !ok || !bytes.Equal(got, want) {
		t.Errorf("%s: PathRoot of leaf %d of %d: %x, %v instead of %x", what, i, n, got, ok, want)
	}
}

// checkNoRoot reports arguments that PathRoot does not refuse.
func checkNoRoot(t *testing.T, what string, h []byte, i, n int, path [][]byte) {
	t.Helper()
	if got, ok := impl.PathRoot(h, i, n, path); ok || len(got) != 0 {
		t.Errorf("%s: PathRoot of leaf %d of %d with %d elements: %x, %v", what, i, n, len(path), got, ok)
	}
}

// checkRefused also reports arguments that PathOk accepts, with any root and with none.
func checkRefused(t *testing.T, what string, x []byte, i, n int, path [][]byte) {
	t.Helper()
	leaf := goHash(0, x)
	checkNoRoot(t, what, leaf, i, n, path)
	for _, root := range append([][]byte{nil, {}, leaf, goRoot(nil)}, path...) {
		checkOk(t, what, x, i, n, path, root, false)
	}
}

// checkOk reports an answer of PathOk that is not as wanted.
func checkOk(t *testing.T, what string, x []byte, i, n int, path [][]byte, root []byte, want bool) {
	t.Helper()
	if got := impl.PathOk(x, i, n, path, root); got != want {
		t.Errorf("%s: PathOk of leaf %d of %d with %d elements and the root %x: %v", what, i, n, len(path), root, got)
	}
}

func TestMaxLeaves(t *testing.T) {
	if impl.MaxLeaves != mostLeaves {
		t.Errorf("MaxLeaves is %d", impl.MaxLeaves)
	}
}

func TestKnownPathLengths(t *testing.T) {
	known := [][]int{
		{}, {0}, {1, 1}, {2, 2, 1}, {2, 2, 2, 2}, {3, 3, 3, 3, 1}, {3, 3, 3, 3, 2, 2}, {3, 3, 3, 3, 3, 3, 2},
		{3, 3, 3, 3, 3, 3, 3, 3}, {4, 4, 4, 4, 4, 4, 4, 4, 1}, {4, 4, 4, 4, 4, 4, 4, 4, 2, 2},
	}
	for n, lengths := range known {
		for i, want := range lengths {
			checkLen(t, i, n, want)
		}
	}
	most := mostLeaves
	for _, k := range [][3]int{
		{0, most, 20}, {1, most, 20}, {most / 2, most, 20}, {most - 1, most, 20},
		{0, most - 1, 20}, {most - 3, most - 1, 20}, {most - 2, most - 1, 19},
		{0, most/2 + 1, 20}, {most / 2, most/2 + 1, 1}, {0, most / 2, 19}, {most/2 - 1, most / 2, 19},
	} {
		checkLen(t, k[0], k[1], k[2])
	}
}

func TestPathLen(t *testing.T) {
	for n := -3; n < 260; n++ {
		for i := -3; i < n+3; i++ {
			checkLen(t, i, n, writtenLen(i, n))
		}
	}
	for _, n := range append(manyCounts(), notLeafCounts...) {
		for _, i := range append(someLeaves(n), notLeaves(n)...) {
			checkLen(t, i, n, writtenLen(i, n))
		}
	}
	for i := 0; i < mostLeaves; i += 7 {
		checkLen(t, i, mostLeaves, 20)
		checkLen(t, i, mostLeaves+1, 0)
	}
}

func TestPathLenOfExtremes(t *testing.T) {
	for _, i := range extremes {
		for _, n := range extremes {
			checkLen(t, i, n, writtenLen(i, n))
		}
		for _, n := range notLeafCounts {
			checkLen(t, i, n, 0)
		}
		checkLen(t, i, 1, 0)
	}
}

// drawnPaths are the paths of the leaves of the trees of chapter 7 as they are drawn, node by node.
func drawnPaths(l [][]byte) [][][][]byte {
	h := make([][]byte, 7)
	for i := range h {
		h[i] = goHash(0, l[i])
	}
	node := func(a, b []byte) []byte { return goHash(1, a, b) }
	a, b, c := node(h[0], h[1]), node(h[2], h[3]), node(h[4], h[5])
	four := node(a, b)
	three, whole := node(c, h[6]), func(rest []byte) [][][]byte {
		return [][][]byte{{h[1], b, rest}, {h[0], b, rest}, {h[3], a, rest}, {h[2], a, rest}}
	}
	return [][][][]byte{
		{},
		{{}},
		{{h[1]}, {h[0]}},
		{{h[1], h[2]}, {h[0], h[2]}, {a}},
		{{h[1], b}, {h[0], b}, {h[3], a}, {h[2], a}},
		append(whole(h[4]), [][]byte{four}),
		append(whole(c), [][]byte{h[5], four}, [][]byte{h[4], four}),
		append(whole(three), [][]byte{h[5], h[6], four}, [][]byte{h[4], h[6], four}, [][]byte{c, four}),
	}
}

func TestDrawnPaths(t *testing.T) {
	for name, l := range someLists(7) {
		for n, paths := range drawnPaths(l) {
			for i, want := range paths {
				got, ok := impl.PathOf(l[:n], i)
				checkPath(t, fmt.Sprintf("leaf %d of %d, %s", i, n, name), got, ok, want)
			}
			checkNoPath(t, name, l[:n], len(paths))
		}
	}
}

func TestPathOf(t *testing.T) {
	for n := range 34 {
		for name, l := range someLists(n) {
			for i := range l {
				got, ok := impl.PathOf(l, i)
				checkPath(t, fmt.Sprintf("PathOf leaf %d of %d, %s", i, n, name), got, ok, writtenPath(l, i))
			}
		}
	}
	for n := 34; n < 67; n++ {
		l := numbered(n)
		for i := range l {
			got, ok := impl.PathOf(l, i)
			checkPath(t, fmt.Sprintf("PathOf leaf %d of %d", i, n), got, ok, writtenPath(l, i))
		}
	}
	for _, n := range []int{127, 128, 129, 255, 256, 257, 1000, 1023, 1024, 1025, 4097} {
		l := numbered(n)
		for _, i := range someLeaves(n) {
			got, ok := impl.PathOf(l, i)
			checkPath(t, fmt.Sprintf("PathOf leaf %d of %d", i, n), got, ok, writtenPath(l, i))
		}
	}
}

// All lists of up to four leaves that are nil, empty, a byte or a hash.
func TestPathOfShortLists(t *testing.T) {
	for _, l := range shortLists(4, nil, []byte{}, []byte{0}, goHash(0)) {
		for i := range l {
			got, ok := impl.PathOf(l, i)
			checkPath(t, fmt.Sprintf("PathOf(%v, %d)", l, i), got, ok, writtenPath(l, i))
		}
	}
}

func TestPathOfNoLeaf(t *testing.T) {
	for _, n := range leafCounts {
		for name, l := range someLists(n) {
			for _, i := range notLeaves(n) {
				checkNoPath(t, name, l, i)
			}
		}
	}
	for _, l := range [][][]byte{nil, {}, make([][]byte, 0, 8), numbered(5)[2:2]} {
		for _, i := range append(notLeaves(0), extremes...) {
			checkNoPath(t, "an empty list", l, i)
		}
	}
	// The elements behind a list are no leaves of it.
	l := numbered(9)
	for n := range l {
		for i := n; i < len(l); i++ {
			checkNoPath(t, "the beginning of a list", l[:n], i)
		}
	}
}

// distinctLeaves returns n leaves of four bytes that differ from each other.
func distinctLeaves(n int) [][]byte {
	l := make([][]byte, n)
	for i := range l {
		l[i] = []byte{byte(i), byte(i >> 8), byte(i >> 16), byte(i >> 24)}
	}
	return l
}

func TestPathOfMostLeaves(t *testing.T) {
	t.Parallel()
	l := distinctLeaves(mostLeaves)
	i := mostLeaves/2 + 12345
	path, ok := impl.PathOf(l, i)
	want := writtenPath(l, i)
	checkPath(t, "PathOf the most leaves", path, ok, want)
	root := writtenPathRoot(goHash(0, l[i]), i, len(l), want)
	checkRoot(t, "the most leaves", goHash(0, l[i]), i, len(l), path, root)
	checkOk(t, "the most leaves", l[i], i, len(l), path, root, true)
}

// The chapter limits the number of leaves for PathLen and PathRoot, but not for
// PathOf: a list that is too long has paths, but they are not accepted.
func TestPathOfTooManyLeaves(t *testing.T) {
	t.Parallel()
	l, i := distinctLeaves(mostLeaves+1), mostLeaves
	path, ok := impl.PathOf(l, i)
	want := writtenPath(l, i)
	checkPath(t, "PathOf a leaf more", path, ok, want)
	checkLen(t, i, len(l), 0)
	checkRefused(t, "a leaf more", l[i], i, len(l), path)
	checkOk(t, "a leaf more", l[i], i, len(l), path, writtenPathRoot(goHash(0, l[i]), i, len(l), want), false)
	checkNoPath(t, "behind a leaf more", l, mostLeaves+1)
}

// The sides on which the elements of a path stand, from the leaf on.
func TestDrawnPathRoots(t *testing.T) {
	h, a, b, c := goHash(3), goHash(4), goHash(5), goHash(6)
	node := func(a, b []byte) []byte { return goHash(1, a, b) }
	known := []struct {
		i, n int
		path [][]byte
		want []byte
	}{
		{0, 1, nil, h},
		{0, 1, [][]byte{}, h},
		{0, 2, [][]byte{a}, node(h, a)},
		{1, 2, [][]byte{a}, node(a, h)},
		{0, 3, [][]byte{a, b}, node(node(h, a), b)},
		{1, 3, [][]byte{a, b}, node(node(a, h), b)},
		{2, 3, [][]byte{a}, node(a, h)},
		{0, 4, [][]byte{a, b}, node(node(h, a), b)},
		{1, 4, [][]byte{a, b}, node(node(a, h), b)},
		{2, 4, [][]byte{a, b}, node(b, node(h, a))},
		{3, 4, [][]byte{a, b}, node(b, node(a, h))},
		{0, 5, [][]byte{a, b, c}, node(node(node(h, a), b), c)},
		{2, 5, [][]byte{a, b, c}, node(node(b, node(h, a)), c)},
		{4, 5, [][]byte{a}, node(a, h)},
		{4, 6, [][]byte{a, b}, node(b, node(h, a))},
		{5, 6, [][]byte{a, b}, node(b, node(a, h))},
		{3, 7, [][]byte{a, b, c}, node(node(b, node(a, h)), c)},
		{4, 7, [][]byte{a, b, c}, node(c, node(node(h, a), b))},
		{5, 7, [][]byte{a, b, c}, node(c, node(node(a, h), b))},
		{6, 7, [][]byte{a, b}, node(b, node(a, h))},
		{6, 8, [][]byte{a, b, c}, node(c, node(b, node(h, a)))},
		{8, 9, [][]byte{a}, node(a, h)},
		{mostLeaves / 2, mostLeaves/2 + 1, [][]byte{a}, node(a, h)},
	}
	for _, k := range known {
		checkRoot(t, "drawn", h, k.i, k.n, k.path, k.want)
	}
}

// Any hashes are a path, also those of no tree.
func TestPathRoot(t *testing.T) {
	counts := manyCounts()
	for n := 1; n <= 130; n++ {
		counts = append(counts, n)
	}
	for _, n := range counts {
		places := someLeaves(n)
		if n <= 130 {
			places = nil
			for i := range n {
				places = append(places, i)
			}
		}
		for _, i := range places {
			path := hashesFor(writtenLen(i, n))
			for _, h := range [][]byte{goHash(9), filled(32, 0), filled(32, 255)} {
				checkRoot(t, "any hashes", h, i, n, path, writtenPathRoot(h, i, n, path))
			}
			equal := slices.Repeat([][]byte{goHash(9)}, len(path))
			checkRoot(t, "one hash", goHash(9), i, n, equal, writtenPathRoot(goHash(9), i, n, equal))
		}
	}
}

func TestPathRootOfNoHash(t *testing.T) {
	for _, n := range []int{1, 2, 3, 4, 7, 8, 9, 100, mostLeaves - 1, mostLeaves} {
		for _, i := range someLeaves(n) {
			path := hashesFor(writtenLen(i, n))
			for _, h := range notHashes() {
				checkNoRoot(t, fmt.Sprintf("%d bytes", len(h)), h, i, n, path)
			}
		}
	}
}

func TestPathRootOfNoLeaf(t *testing.T) {
	x := []byte("leaf")
	for _, n := range []int{1, 2, 3, 4, 7, 8, 9, 100, mostLeaves - 1, mostLeaves} {
		for _, i := range notLeaves(n) {
			for _, size := range []int{0, 1, 2, 3, 4, 7, 19, 20, 21} {
				checkRefused(t, "no leaf", x, i, n, hashesFor(size))
			}
		}
	}
	for _, n := range notLeafCounts {
		for _, i := range append(someLeaves(n), notLeaves(n)...) {
			for _, size := range []int{0, 1, 2, 20, 21, 22, 62, 63, 64} {
				checkRefused(t, "no number of leaves", x, i, n, hashesFor(size))
			}
		}
	}
	for _, i := range extremes {
		for _, n := range extremes {
			if i < 0 || i >= n || n > mostLeaves {
				checkRefused(t, "extreme numbers", x, i, n, nil)
				checkRefused(t, "extreme numbers", x, i, n, hashesFor(8))
			}
		}
	}
}

func TestPathRootOfOtherLengths(t *testing.T) {
	counts := append([]int{100, 128, 129, mostLeaves/2 + 1, mostLeaves - 1, mostLeaves}, leafCounts...)
	for _, n := range counts {
		for _, i := range someLeaves(n) {
			size := writtenLen(i, n)
			for other := range size + 4 {
				if other != size {
					checkRefused(t, "another length", []byte{1}, i, n, hashesFor(other))
				}
			}
			checkRefused(t, "twice the length", []byte{1}, i, n, hashesFor(2*size+1))
		}
	}
	checkRefused(t, "a long path", []byte{1}, 0, 1, slices.Repeat([][]byte{goHash(0)}, 1000))
	checkRefused(t, "a long path of nil", []byte{1}, 0, 1, make([][]byte, 100))
	// The first and the last leaf have paths of different lengths.
	checkRefused(t, "the first path for the last leaf", []byte{1}, 8, 9, hashesFor(4))
	checkRefused(t, "the last path for the first leaf", []byte{1}, 0, 9, hashesFor(1))
}

// noHashesIn returns lists as long as a list of hashes in which some element, or each, is none.
func noHashesIn(l [][]byte) [][][]byte {
	var lists [][][]byte
	for at := range l {
		for _, r := range notHashes() {
			lists = append(lists, slices.Replace(slices.Clone(l), at, at+1, r))
		}
	}
	if len(l) > 0 {
		lists = append(lists, make([][]byte, len(l)))
	}
	if len(l) > 1 {
		moved := slices.Clone(l) // as many bytes as before, cut at another place
		moved[0], moved[1] = l[0][:31], slices.Concat(l[0][31:], l[1])
		lists = append(lists, moved)
	}
	return lists
}

// An element that is no hash is refused at every place of the path.
func TestPathRootOfNoHashes(t *testing.T) {
	counts := append([]int{100, 129, mostLeaves - 1, mostLeaves}, leafCounts...)
	for _, n := range counts {
		for _, i := range someLeaves(n) {
			path := hashesFor(writtenLen(i, n))
			for _, changed := range noHashesIn(path) {
				checkRefused(t, "an element that is no hash", []byte{1}, i, n, changed)
			}
			if len(path) > 0 {
				checkRefused(t, "one element with all bytes", []byte{1}, i, n, [][]byte{slices.Concat(path...)[1:]})
			}
		}
	}
}

// PathOk takes the leaf itself, of any length, and hashes it as a leaf.
func TestPathOkHashesLeaf(t *testing.T) {
	for _, n := range []int{1, 2, 3, 5, 8, mostLeaves} {
		for _, i := range someLeaves(n) {
			path := hashesFor(writtenLen(i, n))
			for _, x := range someParts() {
				root := writtenPathRoot(goHash(0, x), i, n, path)
				checkOk(t, "a leaf", x, i, n, path, root, true)
				checkOk(t, "the hash of a leaf", goHash(0, x), i, n, path, root, false)
				checkOk(t, "a leaf as its hash", x, i, n, path, writtenPathRoot(x, i, n, path), false)
			}
		}
	}
}

// wrongRoots returns byte strings that differ from root.
func wrongRoots(root []byte) [][]byte {
	wrong := [][]byte{nil, {}, root[:31], root[1:], append(slices.Clone(root), 0), append([]byte{0}, root...), slices.Concat(root, root), goRoot(nil), filled(32, 0)}
	for at := range root {
		for _, mask := range []byte{1, 128, 255} {
			changed := slices.Clone(root)
			changed[at] ^= mask
			wrong = append(wrong, changed)
		}
	}
	return wrong
}

func TestPathOkOfOtherRoots(t *testing.T) {
	for _, n := range []int{1, 2, 3, 4, 5, 8, 9, 100, mostLeaves} {
		for _, i := range someLeaves(n) {
			x := []byte{byte(i)}
			path := hashesFor(writtenLen(i, n))
			root := writtenPathRoot(goHash(0, x), i, n, path)
			checkOk(t, "the root", x, i, n, path, root, true)
			for _, other := range append(wrongRoots(root), path...) {
				checkOk(t, "another root", x, i, n, path, other, false)
			}
		}
	}
}
