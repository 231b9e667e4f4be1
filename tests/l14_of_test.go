package tests

import (
	"fmt"
	"slices"
	"testing"

	"loop.example/g00790/impl"
)

// P12 for chapter 15: BlockOf and BlockPath return what the chapter specifies.

// writtenBlockOf asks for a valid block with the right Root.
func writtenBlockOf(l impl.Limits, h impl.Head, txs [][]byte) (impl.Block, bool) {
	x := cloneBlock(blockOver(h, txs))
	if !writtenBlockOk(l, x) {
		return impl.Block{}, false
	}
	return x, true
}

func writtenBlockPath(l impl.Limits, x impl.Block, i int) ([][]byte, bool) {
	if !writtenBlockOk(l, x) || i < 0 || i >= len(x.Txs) {
		return nil, false
	}
	return writtenPath(x.Txs, i), true
}

// checkBlock reports a block that is not as wanted.
func checkBlock(t *testing.T, what string, got impl.Block, ok bool, want impl.Block) {
	t.Helper()
	if !ok || !writtenBlockSame(got, want) {
		t.Errorf("%s: %+v, %v instead of %+v", what, got, ok, want)
	}
}

// checkNoBlockOf reports arguments that BlockOf does not refuse.
func checkNoBlockOf(t *testing.T, l impl.Limits, h impl.Head, txs [][]byte) {
	t.Helper()
	if got, ok := impl.BlockOf(l, h, txs); ok || !writtenBlockSame(got, impl.Block{}) {
		t.Errorf("BlockOf(%+v, %+v, %v): %+v, %v", l, h, txs, got, ok)
	}
}

// checkBlockOf compares BlockOf with the chapter.
func checkBlockOf(t *testing.T, l impl.Limits, h impl.Head, txs [][]byte) {
	t.Helper()
	want, ok := writtenBlockOf(l, h, txs)
	if !ok {
		checkNoBlockOf(t, l, h, txs)
		return
	}
	got, ok := impl.BlockOf(l, h, txs)
	// The words are put together only for an error, as this is asked very often.
	if !ok || !writtenBlockSame(got, want) {
		checkBlock(t, fmt.Sprintf("BlockOf(%+v, %+v, %v)", l, h, txs), got, ok, want)
	}
}

// checkBlockPath compares BlockPath with the chapter.
func checkBlockPath(t *testing.T, l impl.Limits, x impl.Block, i int) {
	t.Helper()
	got, ok := impl.BlockPath(l, x, i)
	if want, wantOk := writtenBlockPath(l, x, i); ok != wantOk || !sameList(got, want) {
		t.Errorf("BlockPath(%+v, %+v, %d): %x, %v instead of %x, %v", l, x, i, got, ok, want, wantOk)
	}
}

// checkNoBlockPath reports a path where there is none.
func checkNoBlockPath(t *testing.T, l impl.Limits, x impl.Block, i int) {
	t.Helper()
	if got, ok := impl.BlockPath(l, x, i); ok || got != nil {
		t.Errorf("BlockPath(%+v, %+v, %d): %x, %v", l, x, i, got, ok)
	}
}

// otherRoots stand in the header that is given to BlockOf: the right root of
// transactions, other hashes, and what is no hash.
func otherRoots(txs [][]byte) [][]byte {
	return append(notHashes(), goRoot(txs), goRoot(nil), goHash(8), filled(32, 0), filled(31, 0), filled(33, 255))
}

func TestBlockOf(t *testing.T) {
	for n := 1; n <= impl.MaxSigners; n++ {
		for _, l := range blockLimits(n) {
			for _, x := range validBlocks(l) {
				for _, root := range otherRoots(x.Txs) {
					h := cloneHead(x.Head)
					h.Root = root
					got, ok := impl.BlockOf(l, h, x.Txs)
					checkBlock(t, "BlockOf", got, ok, x)
					blockCodec.checkOk(t, l, nil, got, true)
				}
			}
		}
	}
}

func TestKnownBlockOf(t *testing.T) {
	for _, k := range knownBlocks() {
		got, ok := impl.BlockOf(k.l, oneHead(), k.txs)
		want := oneHead()
		want.Root = fromHex(t, k.root)
		checkBlock(t, "a known block", got, ok, impl.Block{Head: want, Txs: k.txs})
	}
}

// A header that is not valid otherwise has no block, whatever its Root is.
func TestNoBlockOfHeads(t *testing.T) {
	l := limitsFor(4)
	for _, txs := range [][][]byte{nil, {{1}}, {{1}, {2, 3}}} {
		for _, h := range slices.Concat(oddHeads(), otherHeads(oneHead()), otherHeads(headWith(0))) {
			right := cloneHead(h)
			right.Root = goRoot(txs)
			if writtenHeadOk(l, right) {
				got, ok := impl.BlockOf(l, h, txs)
				checkBlock(t, "BlockOf another header", got, ok, impl.Block{Head: right, Txs: txs})
				continue
			}
			checkNoBlockOf(t, l, h, txs)
			checkNoBlockOf(t, l, right, txs)
		}
	}
	checkNoBlockOf(t, l, impl.Head{}, nil)
}

// Too many transactions have no block, and neither has one that is too long.
func TestNoBlockOfTxs(t *testing.T) {
	for n := 1; n <= impl.MaxSigners; n++ {
		for _, l := range blockLimits(n) {
			h := headOfSet(1, n)
			for _, more := range []int{1, 2, 9, 200} {
				checkNoBlockOf(t, l, h, make([][]byte, l.Txs+more))
				checkNoBlockOf(t, l, h, slices.Repeat([][]byte{filled(l.Tx, 1)}, l.Txs+more))
				for place := range l.Txs {
					txs := slices.Repeat([][]byte{filled(l.Tx, 1)}, l.Txs)
					checkBlockOf(t, l, h, txs)
					txs[place] = mixedBytes(l.Tx+more, n)
					checkNoBlockOf(t, l, h, txs)
					checkNoBlockOf(t, l, h, txs[:place+1])
				}
			}
		}
	}
}

func TestBlockOfLimits(t *testing.T) {
	for _, l := range wrongLimits() {
		checkNoBlockOf(t, l, oneHead(), nil)
		checkNoBlockOf(t, l, oneHead(), [][]byte{{1}})
		checkNoBlockOf(t, l, impl.Head{}, nil)
	}
	for _, base := range someLimits {
		for _, txs := range someTxs(base) {
			for _, f := range limitFields {
				for _, n := range f.edges() {
					checkBlockOf(t, f.with(base, n), headOfSet(1, base.N), txs)
				}
			}
		}
	}
	for from := 1; from <= impl.MaxSigners; from++ {
		for to := 1; to <= impl.MaxSigners; to++ {
			checkBlockOf(t, limitsFor(to), headOfSet(1<<from-1, from), [][]byte{{1}, {2}})
		}
	}
}

// Nil and empty transactions are the same, and so are no transactions.
func TestBlockOfNilTxs(t *testing.T) {
	l := limitsFor(4)
	for n := range l.Txs + 1 {
		nils, empty, turns := nilLists(n)
		for _, txs := range [][][]byte{nils, empty, turns} {
			got, ok := impl.BlockOf(l, oneHead(), txs)
			checkBlock(t, "BlockOf nil and empty", got, ok, blockWith(nils...))
		}
	}
	got, ok := impl.BlockOf(l, oneHead(), [][]byte{})
	checkBlock(t, "BlockOf an empty list", got, ok, blockWith())
}

// The block of a valid block's header and transactions is the block itself.
func TestBlockOfBlocks(t *testing.T) {
	for _, l := range someLimits {
		for _, x := range validBlocks(l) {
			got, ok := impl.BlockOf(l, x.Head, x.Txs)
			checkBlock(t, "BlockOf a block", got, ok, x)
		}
	}
}

// notPlaces are places at which a list of n has no element.
func notPlaces(n int) []int {
	list := append([]int{n, n + 1, n + 8, -n, -n - 1, 1<<32 + n - 1}, notNumbers...)
	return slices.DeleteFunc(list, func(i int) bool { return i >= 0 && i < n })
}

func TestBlockPath(t *testing.T) {
	for n := 1; n <= impl.MaxSigners; n++ {
		for _, l := range blockLimits(n) {
			for _, x := range validBlocks(l) {
				for i, tx := range x.Txs {
					got, ok := impl.BlockPath(l, x, i)
					checkPath(t, "BlockPath", got, ok, writtenPath(x.Txs, i))
					of, _ := impl.PathOf(x.Txs, i)
					checkPath(t, "PathOf", of, ok, got)
					if len(got) != impl.PathLen(i, len(x.Txs)) || !impl.PathOk(tx, i, len(x.Txs), got, x.Head.Root) {
						t.Errorf("BlockPath(%+v, %+v, %d): %x is not accepted", l, x, i, got)
					}
				}
				for _, i := range notPlaces(len(x.Txs)) {
					checkNoBlockPath(t, l, x, i)
				}
			}
		}
	}
}

// The paths of up to seven transactions as they are drawn, node by node.
func TestDrawnBlockPaths(t *testing.T) {
	l := mostFor(4)
	for _, txs := range [][][]byte{numbered(7), slices.Repeat([][]byte{{5}}, 7), make([][]byte, 7)} {
		for n, paths := range drawnPaths(txs) {
			x := blockWith(txs[:n]...)
			for i, want := range paths {
				got, ok := impl.BlockPath(l, x, i)
				checkPath(t, fmt.Sprintf("transaction %d of %d", i, n), got, ok, want)
			}
			checkNoBlockPath(t, l, x, n)
			checkNoBlockPath(t, l, x, -1)
		}
	}
}

// A block that is not valid has no path, also where PathOf has one.
func TestNoPathOfOddBlocks(t *testing.T) {
	for _, x := range append(oddBlocks(), impl.Block{}) {
		for i := -1; i <= len(x.Txs); i++ {
			checkNoBlockPath(t, limitsFor(4), x, i)
		}
	}
	whole := oneBlock()
	for i := range whole.Txs {
		for _, root := range otherRoots(nil) {
			x := cloneBlock(whole)
			x.Head.Root = root
			checkNoBlockPath(t, limitsFor(4), x, i)
		}
		for _, txs := range changedLists(whole.Txs) {
			checkNoBlockPath(t, limitsFor(4), impl.Block{Head: whole.Head, Txs: txs}, i)
		}
	}
}

func TestBlockPathOfLimits(t *testing.T) {
	for _, base := range someLimits {
		for _, txs := range someTxs(base) {
			x := blockOver(headOfSet(1, base.N), txs)
			for _, f := range limitFields {
				for _, n := range f.edges() {
					for i := -1; i <= len(txs); i++ {
						checkBlockPath(t, f.with(base, n), x, i)
					}
				}
			}
		}
	}
	for _, l := range wrongLimits() {
		for i := range 4 {
			checkNoBlockPath(t, l, oneBlock(), i)
		}
	}
}
