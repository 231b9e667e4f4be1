package tests

import (
	"fmt"
	"slices"
	"sync"
	"testing"

	"loop.example/g00790/impl"
)

// Chapter 1 for chapter 8: arguments and their spare capacity stay unchanged
// (both slices of a stack, its hashes, and the capacity behind each), results
// are new memory, and no function panics.

// A heldStack is a stack as it was given to a function.
type heldStack struct {
	given   impl.Stack
	heights []int // the heights of given as they were, with their spare capacity
	hashes  heldList
}

func holdStack(s impl.Stack) heldStack {
	hashes := holdList(s.Hashes)
	given := impl.Stack{Heights: roomyWords(s.Heights), Hashes: hashes.given}
	return heldStack{given, slices.Clone(given.Heights[:cap(given.Heights)]), hashes}
}

// check reports a change of the stack or of the capacity behind it.
func (h heldStack) check(t *testing.T, what string) {
	t.Helper()
	if got := h.given.Heights[:cap(h.given.Heights)]; !slices.Equal(got, h.heights) {
		t.Errorf("%s: the heights and the capacity behind them became %v, not %v", what, got, h.heights)
	}
	h.hashes.check(t, what)
}

// overwriteStack changes everything that belongs to a result.
func overwriteStack(s impl.Stack) {
	overwriteList(s.Hashes)
	overwrite(s.Heights)
}

// oddStacks are stacks that are not valid.
func oddStacks() []impl.Stack {
	hash := goHash(0)
	odd := []impl.Stack{
		{Heights: []int{0}},
		{Hashes: [][]byte{hash}},
		{Heights: []int{1, 0}, Hashes: [][]byte{hash}},
		{Heights: []int{1}, Hashes: [][]byte{hash, hash}},
		{Heights: []int{1}, Hashes: [][]byte{nil}},
		{Heights: []int{1, 0}, Hashes: [][]byte{hash, {}}},
		{Heights: []int{1, 0}, Hashes: [][]byte{filled(33, 1), hash}},
		stackWith(0, 0), stackWith(0, 1), stackWith(1, 1, 0), stackWith(2, 0, 1), stackWith(1, 0, 0),
		stackWith(make([]int, 100)...), stackWith(slices.Repeat([]int{20}, 30)...),
	}
	for _, height := range notHeights {
		odd = append(odd, stackWith(height), stackWith(height, 0), stackWith(3, height))
	}
	return odd
}

// someStacks are valid ones.
func someStacks() []impl.Stack {
	stacks := []impl.Stack{{Heights: []int{}, Hashes: [][]byte{}}}
	for _, n := range append([]int{1 << 20, fullSize - 1, fullSize, 1<<20 - 1}, leafCounts...) {
		stacks = append(stacks, stackWith(heightsOf(n)...))
	}
	for _, n := range leafCounts {
		s, _ := impl.StackOf(numbered(n))
		stacks = append(stacks, s)
	}
	return stacks
}

func TestStackPushPure(t *testing.T) {
	for _, s := range append(someStacks(), oddStacks()...) {
		for _, h := range [][]byte{goHash(9), filled(32, 0), filled(31, 9), filled(33, 9), nil} {
			what := fmt.Sprintf("StackPush of %d bytes onto %v", len(h), s.Heights)
			held, leaf := holdStack(s), roomy(h)
			first, ok := impl.StackPush(held.given, leaf)
			want := stackClone(first)
			held.check(t, what)
			checkRoomy(t, what, leaf, h)
			overwriteStack(first)
			held.check(t, what+", its result overwritten")
			checkRoomy(t, what+", its result overwritten", leaf, h)
			again, okAgain := impl.StackPush(held.given, leaf)
			if ok != okAgain || !sameStack(again, want) {
				t.Errorf("%s: the second call returns %v, %v, the first %v, %v", what, again, okAgain, want, ok)
			}
			overwriteBytes(leaf)
			overwriteStack(held.given)
			if !sameStack(again, want) {
				t.Errorf("%s: a change of the arguments changed the result", what)
			}
			checkElementsApart(t, what, again.Hashes)
		}
	}
}

func TestStackQuestionsPure(t *testing.T) {
	for _, s := range append(someStacks(), oddStacks()...) {
		what := fmt.Sprintf("the questions about %v", s.Heights)
		held := holdStack(s)
		ok, size := impl.StackOk(held.given), impl.StackSize(held.given)
		held.check(t, what)
		if okAgain, sizeAgain := impl.StackOk(held.given), impl.StackSize(held.given); ok != okAgain || size != sizeAgain {
			t.Errorf("%s: %v, %d and then %v, %d", what, ok, size, okAgain, sizeAgain)
		}
	}
}

// The root of a single subtree is no memory of the stack, and neither are others.
func TestStackRootPure(t *testing.T) {
	for _, s := range append(someStacks(), oddStacks()...) {
		what := fmt.Sprintf("StackRoot of %v", s.Heights)
		held := holdStack(s)
		first := impl.StackRoot(held.given)
		want := slices.Clone(first)
		held.check(t, what)
		overwriteBytes(first)
		held.check(t, what+", its result overwritten")
		again := impl.StackRoot(held.given)
		checkHash(t, what+", called again", again, want)
		overwriteStack(held.given)
		checkHash(t, what+", its argument overwritten", again, want)
	}
}

func TestStackOfPure(t *testing.T) {
	for _, n := range leafCounts {
		for name, l := range someLists(n) {
			what := fmt.Sprintf("StackOf %d leaves, %s", n, name)
			held := holdList(l)
			first, _ := impl.StackOf(held.given)
			want := stackClone(first)
			held.check(t, what)
			overwriteStack(first)
			held.check(t, what+", its result overwritten")
			again, ok := impl.StackOf(held.given)
			checkStack(t, what+", called again", again, ok, want)
			for _, x := range held.given {
				overwriteBytes(x)
			}
			checkStack(t, what+", its argument overwritten", again, ok, want)
			checkElementsApart(t, what, again.Hashes)
		}
	}
}

// A push leaves the stack before it as it was, and the next push that of the first.
func TestStacksShareNothing(t *testing.T) {
	var stacks, copies []impl.Stack
	var s impl.Stack
	for n := range 40 {
		stacks, copies = append(stacks, s), append(copies, stackClone(s))
		s, _ = impl.StackPush(s, goHash(0, []byte{byte(n)}))
	}
	for i, s := range stacks {
		overwriteStack(s)
		for j := i + 1; j < len(stacks); j++ {
			if !sameStack(stacks[j], copies[j]) {
				t.Errorf("a change of the stack of %d leaves changed that of %d", i, j)
			}
		}
	}
}

// The hashes of a stack, and the one that is pushed, may be one and the same
// slice, or lie in one piece of memory; those of a result do not.
func TestStacksOfSharedMemory(t *testing.T) {
	for _, n := range append([]int{fullSize - 1}, leafCounts...) {
		heights := heightsOf(n)
		all := mixedBytes(32*(len(heights)+1), n)
		one, pieces := impl.Stack{Heights: heights}, impl.Stack{Heights: heights}
		for i := range heights {
			one.Hashes = append(one.Hashes, all[:32])
			pieces.Hashes = append(pieces.Hashes, all[32*i:32*i+32])
		}
		before := slices.Clone(all)
		for what, s := range map[string]impl.Stack{"one hash": one, "pieces": pieces} {
			for _, leaf := range [][]byte{all[:32], all[len(all)-32:]} {
				want := writtenPush(stackClone(s), leaf)
				got, ok := impl.StackPush(s, leaf)
				checkStack(t, fmt.Sprintf("%s of %d leaves", what, n), got, ok, stackClone(want))
				checkElementsApart(t, what, got.Hashes)
				overwriteStack(got)
				checkHash(t, what+", the memory", all, before)
			}
			root := impl.StackRoot(s)
			checkHash(t, what+", the root", root, writtenStackRoot(s))
			overwriteBytes(root)
			checkHash(t, what+", the memory", all, before)
		}
	}
}

// Two calls have results of their own, also where they have no argument to copy.
func TestEmptyStackResultsAreNew(t *testing.T) {
	first, second := impl.StackRoot(impl.Stack{}), impl.StackRoot(impl.Stack{})
	overwriteBytes(first)
	checkHash(t, "the root called before the change", second, goRoot(nil))
	checkHash(t, "the root called after the change", impl.StackRoot(impl.Stack{}), goRoot(nil))
	none, ok := impl.StackOf(nil)
	overwriteStack(none)
	again, okAgain := impl.StackOf(nil)
	checkStack(t, "StackOf(nil)", none, ok, impl.Stack{})
	checkStack(t, "StackOf(nil) again", again, okAgain, impl.Stack{})
}

func TestStacksOfNil(t *testing.T) {
	none, ok := impl.StackOf([][]byte{})
	checkStack(t, "StackOf an empty list", none, ok, impl.Stack{})
	for n := range 20 {
		nils, empty, turns := nilLists(n)
		want, _ := impl.StackOf(empty)
		got, ok := impl.StackOf(nils)
		checkStack(t, fmt.Sprintf("StackOf %d nil", n), got, ok, want)
		got, ok = impl.StackOf(turns)
		checkStack(t, fmt.Sprintf("StackOf %d nil and empty", n), got, ok, want)
	}
}

// Every function takes a stack that is not valid, whatever is wrong with it.
func TestOddStacks(t *testing.T) {
	for i, s := range oddStacks() {
		checkInvalid(t, fmt.Sprintf("odd stack %d", i), s)
		for _, h := range notHashes() {
			got, ok := impl.StackPush(s, h)
			checkNoStack(t, fmt.Sprintf("%d bytes pushed onto odd stack %d", len(h), i), got, ok)
		}
	}
	for _, a := range extremes {
		for _, b := range extremes {
			s := stackWith(a, b)
			if areHeights(s.Heights) {
				checkValid(t, "extreme heights", s)
			} else {
				checkInvalid(t, "extreme heights", s)
			}
		}
	}
	many := make([]int, 1<<16)
	for i := range many {
		many[i] = len(many) - i
	}
	checkInvalid(t, "many heights", stackWith(many...))
}

// A call in between, also a refused one, leaves nothing behind.
func TestStacksKeepNoState(t *testing.T) {
	l := numbered(23)
	want := writtenOf(l)
	for _, odd := range append(oddStacks(), someStacks()...) {
		impl.StackPush(odd, goHash(0))
		impl.StackPush(odd, nil)
		impl.StackRoot(odd)
		impl.StackSize(odd)
		got, ok := impl.StackOf(l)
		checkStack(t, "StackOf after other calls", got, ok, want)
		checkHash(t, "StackRoot after other calls", impl.StackRoot(got), goRoot(l))
	}
}

func TestStacksAtTheSameTime(t *testing.T) {
	l := numbered(40)
	s := writtenOf(l)
	var group sync.WaitGroup
	for n := range len(l) + 1 {
		group.Go(func() {
			got, ok := impl.StackOf(l[:n])
			checkStack(t, "StackOf at the same time", got, ok, writtenOf(l[:n]))
			leaf := goHash(0, []byte{byte(n)})
			pushed, ok := impl.StackPush(s, leaf)
			checkStack(t, "StackPush at the same time", pushed, ok, writtenPush(s, leaf))
			checkHash(t, "StackRoot at the same time", impl.StackRoot(s), goRoot(l))
		})
	}
	group.Wait()
}
