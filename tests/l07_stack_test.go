package tests

import (
	"bytes"
	"fmt"
	"math"
	"slices"
	"testing"

	"loop.example/g00790/impl"
)

// P12 for chapter 8: every function returns what the chapter specifies.

// fullSize is the number of leaves of a stack with a subtree of every height.
const fullSize = 2097151

// notHeights are no heights of a subtree.
var notHeights = []int{math.MinInt, math.MinInt + 1, -1 << 32, -256, -21, -20, -2, -1, 21, 22, 62, 63, 64, 255, 256, 1 << 32, math.MaxInt - 1, math.MaxInt}

// notHashes are byte strings whose length is not 32, although some have those of hashes by other functions.
func notHashes() [][]byte {
	var l [][]byte
	for _, n := range []int{1, 2, 16, 20, 28, 31, 33, 48, 64, 288} {
		l = append(l, mixedBytes(n, n))
	}
	return append(l, nil, []byte{})
}

// heightsOf returns the heights of the subtrees of n leaves: the bits of n, the highest one first.
func heightsOf(n int) []int {
	var heights []int
	for height := 62; height >= 0; height-- {
		if n&(1<<height) != 0 {
			heights = append(heights, height)
		}
	}
	return heights
}

// stackWith returns a stack with these heights and hashes that differ from each other.
func stackWith(heights ...int) impl.Stack {
	s := impl.Stack{Heights: heights}
	for i := range heights {
		s.Hashes = append(s.Hashes, goHash(7, []byte{byte(i)}))
	}
	return s
}

// stackClone shares nothing with s.
func stackClone(s impl.Stack) impl.Stack {
	return impl.Stack{Heights: slices.Clone(s.Heights), Hashes: deepClone(s.Hashes)}
}

func sameStack(a, b impl.Stack) bool {
	return slices.Equal(a.Heights, b.Heights) && slices.EqualFunc(a.Hashes, b.Hashes, bytes.Equal)
}

// checkStack reports a stack that is not as wanted.
func checkStack(t *testing.T, what string, got impl.Stack, ok bool, want impl.Stack) {
	t.Helper()
	if !ok || !sameStack(got, want) {
		t.Errorf("%s: %v, %x, %v instead of %v, %x", what, got.Heights, got.Hashes, ok, want.Heights, want.Hashes)
	}
}

// checkNoStack reports a result that is not the zero value and false.
func checkNoStack(t *testing.T, what string, got impl.Stack, ok bool) {
	t.Helper()
	if ok || len(got.Heights) != 0 || len(got.Hashes) != 0 {
		t.Errorf("%s: %v, %x, %v instead of the zero value and false", what, got.Heights, got.Hashes, ok)
	}
}

// checkInvalid reports a function that takes s as valid.
func checkInvalid(t *testing.T, what string, s impl.Stack) {
	t.Helper()
	if impl.StackOk(s) {
		t.Errorf("%s: StackOk for %v with %d hashes", what, s.Heights, len(s.Hashes))
	}
	if size := impl.StackSize(s); size != 0 {
		t.Errorf("%s: StackSize is %d for %v with %d hashes", what, size, s.Heights, len(s.Hashes))
	}
	if root := impl.StackRoot(s); len(root) != 0 {
		t.Errorf("%s: StackRoot is %x for %v with %d hashes", what, root, s.Heights, len(s.Hashes))
	}
	pushed, ok := impl.StackPush(s, goHash(0))
	checkNoStack(t, what+": StackPush", pushed, ok)
}

// checkValid reports a function that does not take s as valid.
func checkValid(t *testing.T, what string, s impl.Stack) {
	t.Helper()
	size := 0
	for _, height := range s.Heights {
		size += 1 << height
	}
	if !impl.StackOk(s) {
		t.Errorf("%s: not StackOk for %v with %d hashes", what, s.Heights, len(s.Hashes))
	}
	if got := impl.StackSize(s); got != size {
		t.Errorf("%s: StackSize is %d for %v instead of %d", what, got, s.Heights, size)
	}
	checkHash(t, fmt.Sprintf("%s: StackRoot for %v", what, s.Heights), impl.StackRoot(s), writtenStackRoot(s))
	pushed, ok := impl.StackPush(s, goHash(9))
	what = fmt.Sprintf("%s: StackPush for %v", what, s.Heights)
	if size == fullSize {
		checkNoStack(t, what, pushed, ok)
	} else {
		checkStack(t, what, pushed, ok, writtenPush(s, goHash(9)))
	}
}

// writtenPush follows the chapter, without its conditions.
func writtenPush(s impl.Stack, h []byte) impl.Stack {
	heights, hashes := append(slices.Clone(s.Heights), 0), append(slices.Clone(s.Hashes), h)
	for n := len(heights); n > 1 && heights[n-2] == heights[n-1]; n = len(heights) {
		node := goHash(1, hashes[n-2], hashes[n-1])
		heights, hashes = append(heights[:n-2], heights[n-1]+1), append(hashes[:n-2], node)
	}
	return impl.Stack{Heights: heights, Hashes: hashes}
}

// writtenStackRoot nests the nodes from the first root on, as they are combined from the last one on.
func writtenStackRoot(s impl.Stack) []byte {
	switch len(s.Hashes) {
	case 0:
		return goRoot(nil)
	case 1:
		return s.Hashes[0]
	}
	rest := impl.Stack{Heights: s.Heights[1:], Hashes: s.Hashes[1:]}
	return goHash(1, s.Hashes[0], writtenStackRoot(rest))
}

// areHeights follows the chapter: every height is from 0 to 20 and greater than all behind it.
func areHeights(heights []int) bool {
	for i, a := range heights {
		if a < 0 || a > 20 {
			return false
		}
		for _, b := range heights[i+1:] {
			if a <= b {
				return false
			}
		}
	}
	return true
}

func TestMaxHeight(t *testing.T) {
	if impl.MaxHeight != 20 {
		t.Errorf("MaxHeight is %d", impl.MaxHeight)
	}
}

// All lists of up to four heights, most of which are no heights of a stack.
func TestStackHeights(t *testing.T) {
	values := []int{math.MinInt, -1, 0, 1, 2, 3, 19, 20, 21, math.MaxInt}
	lists := [][]int{nil}
	for n := 0; n <= 4; n++ {
		var longer [][]int
		for _, heights := range lists {
			s := stackWith(heights...)
			if areHeights(heights) {
				checkValid(t, "some heights", s)
			} else {
				checkInvalid(t, "some heights", s)
			}
			for _, height := range values {
				longer = append(longer, append(slices.Clone(heights), height))
			}
		}
		lists = longer
	}
}

func TestStackOfOneSubtree(t *testing.T) {
	for height := 0; height <= 20; height++ {
		checkValid(t, "one subtree", stackWith(height))
	}
	for _, height := range notHeights {
		checkInvalid(t, "one subtree", stackWith(height))
	}
}

// The stack with a subtree of every height, and those with another height, one more or one less in it.
func TestStackOfAllHeights(t *testing.T) {
	all := heightsOf(fullSize)
	if len(all) != 21 || all[0] != 20 {
		t.Fatalf("the heights of %d leaves are %v", fullSize, all)
	}
	checkValid(t, "all heights", stackWith(all...))
	for i, height := range all {
		checkValid(t, "a height less", stackWith(slices.Delete(slices.Clone(all), i, i+1)...))
		checkInvalid(t, "a height twice", stackWith(slices.Insert(slices.Clone(all), i, height)...))
		for _, other := range append([]int{height - 1, height + 1, 0, 20}, notHeights...) {
			if other != height {
				checkInvalid(t, "another height", stackWith(slices.Replace(slices.Clone(all), i, i+1, other)...))
			}
			checkInvalid(t, "a height more", stackWith(slices.Insert(slices.Clone(all), i, other)...))
		}
		for j := range i {
			changed := slices.Clone(all)
			changed[i], changed[j] = all[j], all[i]
			checkInvalid(t, "two exchanged", stackWith(changed...))
		}
	}
	slices.Reverse(all)
	checkInvalid(t, "rising heights", stackWith(all...))
}

func TestStackLengths(t *testing.T) {
	for _, n := range []int{0, 1, 2, 3, 7, 10, 100, fullSize} {
		s := stackWith(heightsOf(n)...)
		for more := 1; more < 3; more++ {
			longer := slices.Concat(s.Hashes, slices.Repeat([][]byte{goHash(0)}, more))
			checkInvalid(t, "hashes more", impl.Stack{Heights: s.Heights, Hashes: longer})
		}
		checkInvalid(t, "a hash nil more", impl.Stack{Heights: s.Heights, Hashes: append(slices.Clone(s.Hashes), nil)})
		for less := range len(s.Hashes) {
			checkInvalid(t, "hashes less", impl.Stack{Heights: s.Heights, Hashes: s.Hashes[:less]})
			checkInvalid(t, "heights less", impl.Stack{Heights: s.Heights[:less], Hashes: s.Hashes})
			checkInvalid(t, "heights only of the last ones", impl.Stack{Heights: s.Heights[less+1:], Hashes: s.Hashes})
		}
	}
	checkInvalid(t, "only heights", impl.Stack{Heights: []int{0}})
	checkInvalid(t, "only heights", impl.Stack{Heights: []int{2, 1}, Hashes: [][]byte{}})
	checkInvalid(t, "only hashes", impl.Stack{Hashes: [][]byte{goHash(0)}})
	checkInvalid(t, "only hashes nil", impl.Stack{Hashes: [][]byte{nil}})
}

func TestStackHashes(t *testing.T) {
	for _, n := range []int{1, 2, 3, 7, 10, 100, fullSize} {
		s := stackWith(heightsOf(n)...)
		for i := range s.Hashes {
			for _, h := range notHashes() {
				checkInvalid(t, fmt.Sprintf("hash %d of %d bytes", i, len(h)), impl.Stack{
					Heights: s.Heights,
					Hashes:  slices.Replace(slices.Clone(s.Hashes), i, i+1, h),
				})
			}
		}
	}
	for _, h := range [][]byte{filled(32, 0), filled(32, 255), goRoot(nil), mixedBytes(32, 1)} {
		checkValid(t, "any 32 bytes", impl.Stack{Heights: []int{3}, Hashes: [][]byte{h}})
		checkValid(t, "any 32 bytes, twice", impl.Stack{Heights: []int{3, 2}, Hashes: [][]byte{h, h}})
	}
}

// Every number of leaves up to that of the full stack has one stack.
func TestStackSizes(t *testing.T) {
	hashes := stackWith(heightsOf(fullSize)...).Hashes
	for n := range fullSize + 1 {
		heights := heightsOf(n)
		s := impl.Stack{Heights: heights, Hashes: hashes[:len(heights)]}
		if got := impl.StackSize(s); got != n || !impl.StackOk(s) {
			t.Fatalf("StackSize of %v = %d instead of %d", heights, got, n)
		}
	}
}

func TestEmptyStack(t *testing.T) {
	leaf := goHash(0, []byte{1})
	for _, s := range []impl.Stack{{}, {Heights: []int{}, Hashes: [][]byte{}}, {Heights: []int{}}, {Hashes: [][]byte{}}} {
		if !impl.StackOk(s) || impl.StackSize(s) != 0 {
			t.Errorf("the empty stack: %v, %d", impl.StackOk(s), impl.StackSize(s))
		}
		checkHash(t, "the root of the empty stack", impl.StackRoot(s), goRoot(nil))
		pushed, ok := impl.StackPush(s, leaf)
		checkStack(t, "a push onto the empty stack", pushed, ok, impl.Stack{Heights: []int{0}, Hashes: [][]byte{leaf}})
	}
}

// How many subtrees a leaf merges depends on the lowest heights.
func TestKnownPushes(t *testing.T) {
	known := []struct {
		what          string
		before, after []int
	}{
		{"merges none", []int{1}, []int{1, 0}},
		{"merges none", []int{20}, []int{20, 0}},
		{"merges none", []int{5, 3, 1}, []int{5, 3, 1, 0}},
		{"merges none", heightsOf(fullSize - 1), heightsOf(fullSize)},
		{"merges one", []int{0}, []int{1}},
		{"merges one", []int{2, 0}, []int{2, 1}},
		{"merges one", []int{20, 0}, []int{20, 1}},
		{"merges one, not the next but one", []int{3, 2, 0}, []int{3, 2, 1}},
		{"merges two", []int{1, 0}, []int{2}},
		{"merges two", []int{3, 1, 0}, []int{3, 2}},
		{"merges all", []int{2, 1, 0}, []int{3}},
		{"merges all", heightsOf(1<<20 - 1), []int{20}},
		{"merges all but the first", append([]int{20}, heightsOf(1<<19-1)...), []int{20, 19}},
	}
	for _, k := range known {
		s, h := stackWith(k.before...), goHash(0, []byte("leaf"))
		got, ok := impl.StackPush(s, h)
		what := fmt.Sprintf("%s, %v", k.what, k.before)
		if !slices.Equal(got.Heights, k.after) {
			t.Errorf("%s: %v instead of %v", what, got.Heights, k.after)
		}
		checkStack(t, what, got, ok, writtenPush(s, h))
	}
}

// The node of two subtrees has the hash of the earlier one first.
func TestPushedHashes(t *testing.T) {
	a, b, c, leaf := goHash(3), goHash(4), goHash(5), goHash(6)
	got, ok := impl.StackPush(impl.Stack{Heights: []int{2}, Hashes: [][]byte{a}}, leaf)
	checkStack(t, "no node", got, ok, impl.Stack{Heights: []int{2, 0}, Hashes: [][]byte{a, leaf}})
	got, ok = impl.StackPush(impl.Stack{Heights: []int{2, 0}, Hashes: [][]byte{a, b}}, leaf)
	checkStack(t, "a node", got, ok, impl.Stack{Heights: []int{2, 1}, Hashes: [][]byte{a, goHash(1, b, leaf)}})
	got, ok = impl.StackPush(impl.Stack{Heights: []int{2, 1, 0}, Hashes: [][]byte{a, b, c}}, leaf)
	checkStack(t, "three nodes", got, ok, impl.Stack{
		Heights: []int{3},
		Hashes:  [][]byte{goHash(1, a, goHash(1, b, goHash(1, c, leaf)))},
	})
	got, ok = impl.StackPush(impl.Stack{Heights: []int{0}, Hashes: [][]byte{leaf}}, leaf)
	checkStack(t, "a hash twice", got, ok, impl.Stack{Heights: []int{1}, Hashes: [][]byte{goHash(1, leaf, leaf)}})
}

// Any valid stack can be pushed to and has a root, also one that no list of leaves has.
func TestPushesAndRoots(t *testing.T) {
	for n := range 600 {
		checkValid(t, "few leaves", stackWith(heightsOf(n)...))
	}
	for height := 9; height <= 21; height++ {
		for n := 1<<height - 20; n < 1<<height+20 && n <= fullSize; n++ {
			checkValid(t, "many leaves", stackWith(heightsOf(n)...))
		}
	}
	for n := 1000; n <= fullSize; n += 1001 {
		checkValid(t, "some leaves", stackWith(heightsOf(n)...))
	}
}

func TestPushOfNoHash(t *testing.T) {
	for _, n := range []int{0, 1, 2, 3, 4, 7, 8, 100, fullSize - 1, fullSize} {
		s := stackWith(heightsOf(n)...)
		for _, h := range notHashes() {
			got, ok := impl.StackPush(s, h)
			checkNoStack(t, fmt.Sprintf("%d bytes pushed onto %d leaves", len(h), n), got, ok)
		}
		if n < fullSize {
			got, ok := impl.StackPush(s, filled(32, 0))
			checkStack(t, fmt.Sprintf("32 zero bytes pushed onto %d leaves", n), got, ok, writtenPush(s, filled(32, 0)))
		}
	}
}

// Twenty-one subtrees and a leaf would merge into one that is too high.
func TestPushOntoFullStack(t *testing.T) {
	full := stackWith(heightsOf(fullSize)...)
	got, ok := impl.StackPush(full, goHash(0))
	checkNoStack(t, "a push onto the full stack", got, ok)
	almost := stackWith(heightsOf(fullSize - 1)...)
	filledUp, ok := impl.StackPush(almost, goHash(0))
	checkStack(t, "the last push", filledUp, ok, writtenPush(almost, goHash(0)))
	got, ok = impl.StackPush(filledUp, goHash(0))
	checkNoStack(t, "a push behind the last one", got, ok)
}

// The values are combined from the last root on, with the earlier root first.
func TestKnownStackRoots(t *testing.T) {
	a, b, c, d := goHash(3), goHash(4), goHash(5), goHash(6)
	checkHash(t, "no root", impl.StackRoot(impl.Stack{}), fromHex(t, "e3b0c44298fc1c149afbf4c8996fb92427ae41e4649b934ca495991b7852b855"))
	for height := range 21 {
		checkHash(t, "one root", impl.StackRoot(impl.Stack{Heights: []int{height}, Hashes: [][]byte{a}}), a)
	}
	checkHash(t, "two roots", impl.StackRoot(impl.Stack{Heights: []int{9, 3}, Hashes: [][]byte{a, b}}), goHash(1, a, b))
	three := impl.Stack{Heights: []int{9, 3, 0}, Hashes: [][]byte{a, b, c}}
	checkHash(t, "three roots", impl.StackRoot(three), goHash(1, a, goHash(1, b, c)))
	four := impl.Stack{Heights: []int{20, 9, 3, 0}, Hashes: [][]byte{a, b, c, d}}
	checkHash(t, "four roots", impl.StackRoot(four), goHash(1, a, goHash(1, b, goHash(1, c, d))))
}

// writtenOf starts with an empty stack and pushes the hash of every leaf.
func writtenOf(l [][]byte) impl.Stack {
	s := impl.Stack{}
	for _, x := range l {
		s = writtenPush(s, goHash(0, x))
	}
	return s
}

func TestStackOf(t *testing.T) {
	for n := range 140 {
		for name, l := range someLists(n) {
			got, ok := impl.StackOf(l)
			checkStack(t, fmt.Sprintf("StackOf %d leaves, %s", n, name), got, ok, writtenOf(l))
		}
	}
	for _, n := range []int{255, 256, 257, 1000, 1023, 1024, 1025, 4097} {
		l := numbered(n)
		got, ok := impl.StackOf(l)
		checkStack(t, fmt.Sprintf("StackOf %d leaves", n), got, ok, writtenOf(l))
	}
}

// All lists of up to six leaves that are nil, empty, a byte or a hash.
func TestStackOfShortLists(t *testing.T) {
	for _, l := range shortLists(6, nil, []byte{}, []byte{0}, goHash(0)) {
		got, ok := impl.StackOf(l)
		checkStack(t, fmt.Sprintf("StackOf(%v)", l), got, ok, writtenOf(l))
	}
}

func TestStackOfLongLeaves(t *testing.T) {
	for _, n := range []int{1, 2, 3, 5} {
		l := make([][]byte, n)
		for i := range l {
			l[i] = mixedBytes(100000+i, i)
		}
		got, ok := impl.StackOf(l)
		checkStack(t, fmt.Sprintf("StackOf %d long leaves", n), got, ok, writtenOf(l))
	}
}

// A list that is one leaf too long has no stack, not even one of the leaves before.
func TestStackOfTooManyLeaves(t *testing.T) {
	t.Parallel()
	got, ok := impl.StackOf(make([][]byte, fullSize+1))
	checkNoStack(t, "StackOf one leaf too many", got, ok)
}

func TestStackOfMostLeaves(t *testing.T) {
	t.Parallel()
	got, ok := impl.StackOf(make([][]byte, fullSize))
	// All leaves are equal, so that the subtrees of each height have one root.
	var roots [][]byte
	root := goHash(0)
	for range 21 {
		roots = append([][]byte{root}, roots...)
		root = goHash(1, root, root)
	}
	checkStack(t, "StackOf the most leaves", got, ok, impl.Stack{Heights: heightsOf(fullSize), Hashes: roots})
}
