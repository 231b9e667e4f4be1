package tests

import (
	"bytes"
	"fmt"
	"slices"
	"sync"
	"testing"

	"loop.example/g00790/impl"
)

// Chapter 1 for chapter 14: arguments and their spare capacity stay unchanged
// (b, Parent, Root, and all parts of the certificate), results are new memory,
// and no function panics.

func holdHead(h impl.Head) held[impl.Head] {
	given, want, certificate := h, cloneHead(h), holdQc(h.Qc)
	given.Parent, given.Root, given.Qc = roomy(h.Parent), roomy(h.Root), certificate.given
	return held[impl.Head]{given, func(t *testing.T, what string) {
		t.Helper()
		checkRoomy(t, what+", Parent", given.Parent, want.Parent)
		checkRoomy(t, what+", Root", given.Root, want.Root)
		certificate.check(t, what+", Qc")
	}}
}

// partsOfHead are all byte strings of a header.
func partsOfHead(h impl.Head) [][]byte { return append(partsOfQc(h.Qc), h.Parent, h.Root) }

// overwriteHead changes everything that belongs to a header.
func overwriteHead(h impl.Head) {
	overwriteBytes(h.Parent)
	overwriteBytes(h.Root)
	overwriteQc(h.Qc)
}

// oddHeads are headers that are not valid for four validators.
func oddHeads() []impl.Head {
	list := []impl.Head{{}, {Parent: []byte{}, Root: []byte{}}, headWith(255), headWith(1, 2), headWith()}
	for _, q := range oddQcs() {
		list = append(list, headOver(q))
	}
	for _, h := range otherHeads(oneHead()) {
		if !writtenHeadOk(limitsFor(4), h) {
			list = append(list, h)
		}
	}
	return list
}

// pureHeadInputs are encodings of headers, and bytes that are none.
func pureHeadInputs() [][]byte {
	list := [][]byte{nil, {}, {128}, {128, 0}, {1, 0}, {1, 1, 4}, filled(102, 0), filled(102, 1), filled(134, 1), filled(150, 255), rawHead(headWith(16)), rawHead(headWith(255))}
	mismatch := oneHead()
	mismatch.Parent = goHash(6)
	list = append(list, rawHead(mismatch))
	for _, h := range []impl.Head{oneHead(), headWith(0), headOver(impl.Qc{View: impl.MaxNum - 1, Height: impl.MaxNum - 1, Block: filled(32, 255), Bits: []byte{1}, Tags: [][]byte{filled(32, 255)}})} {
		b := rawHead(h)
		list = append(list, b, b[:len(b)-1], b[:len(b)-32], b[:80], append(bytes.Clone(b), b...), append([]byte{0}, b...))
	}
	return list
}

func TestPutHeadPure(t *testing.T) {
	headCodec.checkPutPure(t, append(oddHeads(), oneHead(), headWith(0), headWith(15)))
}

// The slice of PutHead is its own: also where b has room for all of it, and where
// the parts of the header lie in b, behind b, or in one another.
func TestPutHeadOfSharedMemory(t *testing.T) {
	all := mixedBytes(400, 3)
	all[40], all[72] = 3, 3
	copy(all[200:], all[40:72])
	copy(all[368:], all[40:72])
	hash := all[40:72]
	for _, h := range []impl.Head{
		{Parent: hash, Root: hash, Qc: impl.Qc{Block: hash, Bits: hash[:1], Tags: [][]byte{hash, hash}}},
		{Parent: hash, Root: all[41:73], Qc: impl.Qc{Block: all[200:232], Bits: all[72:73], Tags: [][]byte{all[5:37], all[0:32]}}},
		{Parent: all[368:], Root: all[0:32], Qc: impl.Qc{Block: hash, Bits: all[40:41], Tags: [][]byte{all[41:73], all[73:105]}}},
		{Parent: all[200:232], Root: all[201:233], Qc: impl.Qc{Block: all[200:232], Bits: all[200:201], Tags: [][]byte{all[368:], all[199:231]}}},
	} {
		h.View, h.Height, h.Qc.View, h.Qc.Height = 300, 3, 299, 2
		headCodec.checkPutShared(t, all, []int{0, 1, 10, 40, 72, 210, 399, 400}, h)
	}
}

func TestPutHeadTwice(t *testing.T) {
	second := headWith(10)
	second.View = 400
	headCodec.checkPutTwice(t, oneHead(), second)
}

func TestGetHeadPure(t *testing.T) { headCodec.checkGetPure(t, pureHeadInputs()) }

// Parent and the certificate's Block are the same bytes, but not the same memory.
func TestParentsAreTwoCopies(t *testing.T) {
	h, _, _ := impl.GetHead(limitsFor(4), rawHead(oneHead()), 0)
	overwriteBytes(h.Parent)
	checkHash(t, "Block, Parent overwritten", h.Qc.Block, goHash(7))
	h, _, _ = impl.GetHead(limitsFor(4), rawHead(oneHead()), 0)
	overwriteBytes(h.Qc.Block)
	checkHash(t, "Parent, Block overwritten", h.Parent, goHash(7))
}

func TestHeadQuestionsPure(t *testing.T) {
	headCodec.checkQuestionsPure(t, oneHead(), append(oddHeads(), oneHead(), headWith(0)))
}

func TestHeadHashPure(t *testing.T) {
	for _, h := range append(oddHeads(), oneHead(), headWith(0), headWith(15)) {
		for _, l := range []impl.Limits{limitsFor(4), {}} {
			what := fmt.Sprintf("HeadHash(%v, %+v)", l, h)
			x := holdHead(h)
			first := impl.HeadHash(l, x.given)
			x.check(t, what)
			overwriteBytes(first)
			x.check(t, what+", its result overwritten")
			second := impl.HeadHash(l, x.given)
			overwriteHead(x.given)
			checkHash(t, what+", its argument overwritten", second, writtenHeadHash(l, h))
		}
	}
}

func TestLinksPure(t *testing.T) {
	parent := oneHead()
	child := childOf(parent, 7, 4)
	list := append(oddHeads()[:11], parent, child, headWith(0))
	for _, a := range list {
		for _, b := range list {
			for _, l := range []impl.Limits{limitsFor(4), {}} {
				what := fmt.Sprintf("Links(%v, %+v, %+v)", l, a, b)
				x, y := holdHead(a), holdHead(b)
				for range 2 {
					checkLinks(t, l, x.given, y.given, writtenLinks(l, a, b))
					x.check(t, what)
					y.check(t, what)
				}
			}
		}
	}
}

// Two headers may share their memory: a child may keep the slices of its parent.
func TestLinksOfSharedMemory(t *testing.T) {
	l := limitsFor(4)
	all := mixedBytes(200, 5)
	parent := headOver(impl.Qc{View: 4, Height: 1, Block: all[0:32], Bits: []byte{3}, Tags: [][]byte{all[0:32], all[1:33]}})
	parent.Parent, parent.Root = all[0:32], all[32:64]
	child := childOf(parent, 3, 4)
	child.Root, child.Qc.Tags, child.Qc.Bits = parent.Root, parent.Qc.Tags, parent.Qc.Bits
	child.Parent = child.Qc.Block
	before := bytes.Clone(all)
	checkLinks(t, l, parent, child, true)
	checkLinks(t, l, child, parent, false)
	hash := impl.HeadHash(l, parent)
	overwriteBytes(hash)
	checkHash(t, "the memory", all, before)
	checkLinks(t, l, parent, child, true)
}

func TestHeadResultsAreNew(t *testing.T) {
	headCodec.checkGetNew(t, limitsFor(4), oneHead())
	headCodec.checkGetNew(t, limitsFor(4), headWith(0))
	first, second := impl.HeadHash(limitsFor(4), oneHead()), impl.HeadHash(limitsFor(4), oneHead())
	overwriteBytes(first)
	checkHash(t, "HeadHash, the first result overwritten", second, goHash(72, rawHead(oneHead())))
	checkHeadHash(t, limitsFor(4), oneHead())
}

// What is appended to the tags of a header's certificate does not reach a copy of it.
func TestTagsAppendedToCopiesOfHeads(t *testing.T) {
	for _, h := range []impl.Head{oneHead(), headWith(0), headWith(15)} {
		read, _, _ := impl.GetHead(limitsFor(4), rawHead(h), 0)
		first, second := append(read.Qc.Tags, goHash(1)), append(read.Qc.Tags, goHash(2))
		if !sameList(first, append(slices.Clone(h.Qc.Tags), goHash(1))) || !sameList(second, append(slices.Clone(h.Qc.Tags), goHash(2))) {
			t.Errorf("the tags of %+v with one more are %v and %v", h, first, second)
		}
	}
}

// Every function takes all ints, whatever the other arguments are.
func TestHeadsOfExtremes(t *testing.T) {
	for i, n := range extremes {
		for j, m := range extremes {
			q := qcOfSet(i%3, 8)
			q.View, q.Height = n, m
			for _, h := range []impl.Head{headOver(q), {View: m, Height: n, Proposer: n, Parent: q.Block, Root: goHash(byte(j)), Qc: q}, {View: n, Height: m + 1, Proposer: m, Qc: q}} {
				for _, l := range []impl.Limits{limitsFor(8), {N: n, Tx: m, Txs: n, Frame: m, Heads: n}, limitsFor(m)} {
					headCodec.checkOk(t, l, nil, h, writtenHeadOk(l, h))
					headCodec.checkSame(t, h, cloneHead(h), true)
					checkHeadHash(t, l, h)
					checkLinks(t, l, h, childOf(h, i%3, 8), writtenLinks(l, h, childOf(h, i%3, 8)))
					checkLinks(t, l, oneHead(), h, writtenLinks(l, oneHead(), h))
				}
			}
		}
	}
	headCodec.checkExtremes(t, pureHeadInputs())
}

// A call in between, also a refused one, leaves nothing behind.
func TestHeadsKeepNoState(t *testing.T) {
	l, h := limitsFor(4), oneHead()
	child := childOf(h, 7, 4)
	for i, b := range pureHeadInputs() {
		impl.GetHead(limitsFor(i), b, 0)
		impl.GetHead(impl.Limits{}, b, 1)
		impl.PutHead(limitsFor(i), b, headWith(byte(i)))
		impl.PutHead(l, b, impl.Head{})
		impl.HeadOk(impl.Limits{}, h)
		impl.HeadSame(h, impl.Head{})
		impl.HeadHash(l, impl.Head{})
		impl.HeadHash(limitsFor(i), headWith(byte(i)))
		impl.Links(l, child, h)
		impl.Links(impl.Limits{}, h, child)
		headCodec.checkValid(t, l, h)
		headCodec.checkNoneAt(t, l, rawHead(h)[:50], 0, impl.ErShort)
		checkHeadHash(t, l, h)
		checkLinks(t, l, h, child, true)
	}
}

func TestHeadsAtTheSameTime(t *testing.T) {
	var group sync.WaitGroup
	all, parent := make([]byte, 3, 500), oneHead()
	child := childOf(parent, 7, 4)
	for n := 1; n <= impl.MaxSigners; n++ {
		group.Go(func() {
			for _, h := range someHeads(n) {
				headCodec.checkOk(t, limitsFor(n), all, h, true)
				headCodec.checkAt(t, limitsFor(n), rawHead(h), 0, h, len(rawHead(h)), impl.ErOk)
				checkHeadHash(t, limitsFor(n), h)
			}
			checkLinks(t, limitsFor(4), parent, child, true)
			checkLinks(t, limitsFor(4), child, parent, false)
		})
	}
	group.Wait()
}
