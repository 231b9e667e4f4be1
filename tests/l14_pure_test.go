package tests

import (
	"bytes"
	"fmt"
	"slices"
	"sync"
	"testing"

	"loop.example/g00790/impl"
)

// Chapter 1 for chapter 15: arguments and their spare capacity stay unchanged
// (b, all parts of the header, the list of transactions and each of them),
// results are new memory, and no function panics.

func holdBlock(x impl.Block) held[impl.Block] {
	head, txs := holdHead(x.Head), holdList(x.Txs)
	return held[impl.Block]{impl.Block{Head: head.given, Txs: txs.given}, func(t *testing.T, what string) {
		t.Helper()
		head.check(t, what+", Head")
		txs.check(t, what+", Txs")
	}}
}

// partsOfBlock are all byte strings of a block.
func partsOfBlock(x impl.Block) [][]byte { return append(partsOfHead(x.Head), x.Txs...) }

// overwriteBlock changes everything that belongs to a block.
func overwriteBlock(x impl.Block) {
	overwriteHead(x.Head)
	overwriteList(x.Txs)
}

// oddBlocks are blocks that are not valid for limitsFor(4).
func oddBlocks() []impl.Block {
	list := []impl.Block{{}, {Txs: [][]byte{}}, {Txs: [][]byte{nil, {}, {1}}}, blockWith(numbered(5)...), blockWith(filled(11, 1)), blockWith(nil, nil, nil, nil, nil), blockWith([]byte{1}, filled(300, 2))}
	for _, h := range oddHeads()[:20] {
		list = append(list, blockOver(h, [][]byte{{1}, {2, 3}}))
	}
	for _, x := range otherBlocks(blockWith([]byte{1}, []byte{2, 3})) {
		if !writtenBlockOk(limitsFor(4), x) {
			list = append(list, x)
		}
	}
	return list
}

// pureBlocks are valid blocks.
func pureBlocks() []impl.Block {
	return []impl.Block{oneBlock(), blockWith(), blockWith(nil), blockWith([]byte{1}), blockOver(headWith(0), slices.Repeat([][]byte{filled(10, 255)}, 4))}
}

// pureBlockInputs are encodings of blocks, and bytes that are none.
func pureBlockInputs() [][]byte {
	list := append(pureHeadInputs(), rawBlock(blockWith(numbered(5)...)), rawBlock(blockWith(filled(11, 1))))
	mismatch := oneBlock()
	mismatch.Head.Root = goHash(6)
	list = append(list, rawBlock(mismatch))
	for _, x := range pureBlocks() {
		b := rawBlock(x)
		list = append(list, b, b[:len(b)-1], b[:len(rawHead(x.Head))], b[:80], append(bytes.Clone(b), b...), append([]byte{0}, b...))
	}
	return list
}

func TestPutBlockPure(t *testing.T) {
	blockCodec.checkPutPure(t, append(oddBlocks(), pureBlocks()...))
}

// The slice of PutBlock is its own: also where b has room for all of it, and where
// the parts of the block lie in b, behind b, or in one another.
func TestPutBlockOfSharedMemory(t *testing.T) {
	all := mixedBytes(500, 3)
	all[40], all[72] = 3, 3
	hash := all[40:72]
	lists := [][][]byte{
		{hash[:10], hash[:10], hash[:0], hash[5:15]},
		{all[0:10], all[1:11], all[210:220], all[390:400]},
		{all[:0], all[40:41]},
		{},
	}
	for _, txs := range lists {
		// Root lies behind all transactions, so that it changes none of them.
		root := all[400:432]
		copy(root, goRoot(txs))
		h := impl.Head{View: 300, Height: 3, Parent: hash, Root: root, Qc: impl.Qc{View: 299, Height: 2, Block: hash, Bits: hash[:1], Tags: [][]byte{hash, all[41:73]}}}
		blockCodec.checkPutShared(t, all, []int{0, 1, 10, 40, 72, 210, 399, 410, 500}, impl.Block{Head: h, Txs: txs})
	}
}

func TestPutBlockTwice(t *testing.T) {
	second := blockOver(headWith(10), [][]byte{{9}, {8, 7}})
	second.Head.View = 400
	blockCodec.checkPutTwice(t, oneBlock(), second)
}

func TestGetBlockPure(t *testing.T) { blockCodec.checkGetPure(t, pureBlockInputs()) }

func TestBlockQuestionsPure(t *testing.T) {
	blockCodec.checkQuestionsPure(t, oneBlock(), append(oddBlocks(), pureBlocks()...))
}

// checkBlockOfPure asks that BlockOf keeps nothing of its arguments and changes
// nothing of them: Root of the header, which is replaced, stays what it was.
func checkBlockOfPure(t *testing.T, l impl.Limits, x impl.Block) {
	t.Helper()
	what := fmt.Sprintf("BlockOf(%v, %+v, %v)", l, x.Head, x.Txs)
	want, wantOk := writtenBlockOf(l, x.Head, x.Txs)
	h := holdBlock(x)
	first, _ := impl.BlockOf(l, h.given.Head, h.given.Txs)
	h.check(t, what)
	overwriteBlock(first)
	h.check(t, what+", its result overwritten")
	second, ok := impl.BlockOf(l, h.given.Head, h.given.Txs)
	overwriteBlock(h.given)
	if ok != wantOk || !writtenBlockSame(second, want) {
		t.Errorf("%s, its argument overwritten: %+v, %v instead of %+v", what, second, ok, want)
	}
	checkElementsApart(t, what, partsOfBlock(second))
}

func TestBlockOfPure(t *testing.T) {
	for _, x := range append(oddBlocks(), pureBlocks()...) {
		for _, l := range []impl.Limits{limitsFor(4), limitsFor(10), {}} {
			checkBlockOfPure(t, l, x)
		}
	}
}

// The header and the transactions given to BlockOf may share their memory; those
// of the result do not.
func TestBlockOfSharedMemory(t *testing.T) {
	l, all := limitsFor(4), mixedBytes(100, 7)
	all[0] = 3
	before := bytes.Clone(all)
	hash := all[0:32]
	h := impl.Head{View: 9, Height: 2, Parent: hash, Root: hash, Qc: impl.Qc{View: 8, Height: 1, Block: hash, Bits: hash[:1], Tags: [][]byte{hash, hash}}}
	for _, txs := range [][][]byte{{hash[:10], hash[:10], hash[1:11]}, {all[32:40], all[36:44], all[:0]}, h.Qc.Tags[:0], {}} {
		want, _ := writtenBlockOf(l, cloneHead(h), deepClone(txs))
		got, ok := impl.BlockOf(l, h, txs)
		checkBlock(t, "BlockOf of shared memory", got, ok, want)
		checkElementsApart(t, "BlockOf of shared memory", partsOfBlock(got))
		overwriteBlock(got)
		checkHash(t, "the memory, the result overwritten", all, before)
		got, ok = impl.BlockOf(l, h, txs)
		overwriteBytes(all)
		checkBlock(t, "BlockOf, the memory overwritten", got, ok, want)
		copy(all, before)
	}
}

// The two blocks of one header and one list share nothing.
func TestBlocksOfOneHeader(t *testing.T) {
	l, h, txs := limitsFor(4), oneHead(), [][]byte{{1}, {2, 3}}
	first, _ := impl.BlockOf(l, h, txs)
	second, _ := impl.BlockOf(l, first.Head, first.Txs)
	want := blockOver(h, txs)
	overwriteBlock(first)
	checkBlock(t, "the second block", second, true, want)
	overwriteBlock(second)
	third, ok := impl.BlockOf(l, h, txs)
	checkBlock(t, "the third block", third, ok, want)
}

func TestBlockPathPure(t *testing.T) {
	for _, x := range append(oddBlocks(), pureBlocks()...) {
		for _, l := range []impl.Limits{limitsFor(4), {}} {
			for _, i := range []int{-1, 0, 1, 2, 3, 4} {
				what := fmt.Sprintf("BlockPath(%v, %+v, %d)", l, x, i)
				want, wantOk := writtenBlockPath(l, x, i)
				h := holdBlock(x)
				first, _ := impl.BlockPath(l, h.given, i)
				h.check(t, what)
				overwriteList(first)
				h.check(t, what+", its result overwritten")
				second, ok := impl.BlockPath(l, h.given, i)
				overwriteBlock(h.given)
				if ok != wantOk || !sameList(second, want) {
					t.Errorf("%s, its argument overwritten: %x, %v instead of %x", what, second, ok, want)
				}
				checkElementsApart(t, what, second)
			}
		}
	}
}

func TestBlockResultsAreNew(t *testing.T) {
	for _, x := range pureBlocks() {
		blockCodec.checkGetNew(t, limitsFor(4), x)
	}
	x := oneBlock()
	first, _ := impl.BlockPath(limitsFor(4), x, 1)
	second, ok := impl.BlockPath(limitsFor(4), x, 1)
	overwriteList(first)
	checkPath(t, "BlockPath, the first result overwritten", second, ok, writtenPath(x.Txs, 1))
}

// What is appended to the transactions of a block does not reach a copy of it.
func TestTxsAppendedToCopies(t *testing.T) {
	for _, x := range pureBlocks() {
		read, _, _ := impl.GetBlock(limitsFor(4), rawBlock(x), 0)
		made, _ := impl.BlockOf(limitsFor(4), x.Head, x.Txs)
		for _, y := range []impl.Block{read, made} {
			first, second := append(y.Txs, []byte{1}), append(y.Txs, []byte{2})
			if !sameList(first, append(slices.Clone(x.Txs), []byte{1})) || !sameList(second, append(slices.Clone(x.Txs), []byte{2})) {
				t.Errorf("the transactions of %+v with one more are %v and %v", x, first, second)
			}
		}
	}
}

// Every function takes all ints, whatever the other arguments are.
func TestBlocksOfExtremes(t *testing.T) {
	for i, n := range extremes {
		for _, m := range extremes {
			x := blockOver(headOver(impl.Qc{View: n, Height: m, Block: goHash(7), Bits: []byte{0}}), [][]byte{{1}, {2}})
			for _, y := range []impl.Block{x, oneBlock(), {Head: impl.Head{View: n, Height: m, Proposer: n}, Txs: numbered(i)}} {
				for _, l := range []impl.Limits{limitsFor(8), {N: n, Tx: m, Txs: n, Frame: m, Heads: n}, {N: 4, Tx: n, Txs: m, Frame: 1, Heads: 3}, {N: m, Tx: 10, Txs: 4, Frame: 1, Heads: 3}} {
					blockCodec.checkOk(t, l, nil, y, writtenBlockOk(l, y))
					blockCodec.checkSame(t, y, cloneBlock(y), true)
					checkBlockOf(t, l, y.Head, y.Txs)
					checkBlockPath(t, l, y, n)
					checkBlockPath(t, l, y, m)
				}
			}
		}
	}
	blockCodec.checkExtremes(t, pureBlockInputs())
}

// A call in between, also one that stops at an error, leaves nothing behind.
func TestBlocksKeepNoState(t *testing.T) {
	l, x := limitsFor(4), oneBlock()
	for i, b := range pureBlockInputs() {
		impl.GetBlock(limitsFor(i), b, 0)
		impl.GetBlock(l, b, 1)
		impl.GetBlock(impl.Limits{}, b, 1)
		impl.PutBlock(l, b, blockWith([]byte{byte(i)}))
		impl.PutBlock(l, b, impl.Block{})
		impl.BlockOk(impl.Limits{}, x)
		impl.BlockSame(x, impl.Block{})
		impl.BlockOf(l, x.Head, numbered(i))
		impl.BlockOf(l, impl.Head{}, x.Txs)
		impl.BlockPath(l, blockWith([]byte{byte(i)}, b), i)
		blockCodec.checkValid(t, l, x)
		blockCodec.checkNoneAt(t, l, rawBlock(x)[:180], 0, impl.ErShort)
		checkBlockOf(t, l, x.Head, x.Txs)
		checkBlockPath(t, l, x, 2)
	}
}

// Some of the calls stop at an error, while others go on.
func TestBlocksAtTheSameTime(t *testing.T) {
	var group sync.WaitGroup
	all := make([]byte, 3, 500)
	for n := 1; n <= impl.MaxSigners; n++ {
		group.Go(func() {
			for _, x := range validBlocks(limitsFor(n)) {
				b := rawBlock(x)
				blockCodec.checkOk(t, limitsFor(n), all, x, true)
				blockCodec.checkAt(t, limitsFor(n), b, 0, x, len(b), impl.ErOk)
				blockCodec.checkNoneAt(t, limitsFor(n), b[:len(b)-1], 0, impl.ErShort)
				checkBlockOf(t, limitsFor(n), x.Head, x.Txs)
				checkBlockPath(t, limitsFor(n), x, len(x.Txs)-1)
			}
		})
	}
	group.Wait()
}
