package tests

import (
	"bytes"
	"testing"

	"loop.example/g00790/impl"
)

// P7 for chapter 15: Root of a valid block is the root of the whole tree of its
// transactions, and each of them has its inclusion proof.

// checkTreeRoot compares Root with that of the tree, of the incremental tree,
// and of the tree that Go computes.
func checkTreeRoot(t *testing.T, x impl.Block) {
	t.Helper()
	checkHash(t, "Root and TreeRoot", x.Head.Root, impl.TreeRoot(x.Txs))
	checkHash(t, "Root and the root of Go", x.Head.Root, goRoot(x.Txs))
	s, ok := impl.StackOf(x.Txs)
	if !ok {
		t.Errorf("%+v has no stack", x)
	}
	checkHash(t, "Root and StackRoot", x.Head.Root, impl.StackRoot(s))
}

// checkEveryTx asks that each transaction has a path with which it is accepted
// in its place, and in no other place unless the hashes there are the same.
func checkEveryTx(t *testing.T, l impl.Limits, x impl.Block) {
	t.Helper()
	n, root := len(x.Txs), x.Head.Root
	for i, tx := range x.Txs {
		path, ok := impl.BlockPath(l, x, i)
		if !ok || !impl.PathOk(tx, i, n, path, root) {
			t.Errorf("transaction %d of %+v: %x, %v", i, x, path, ok)
		}
		for j, other := range x.Txs {
			if got, want := impl.PathOk(other, i, n, path, root), bytes.Equal(tx, other); got != want {
				t.Errorf("transaction %d in place %d of %+v: %v", j, i, x, got)
			}
			moved := writtenLen(j, n) == len(path) && bytes.Equal(writtenPathRoot(goHash(0, tx), j, n, path), root)
			if got := impl.PathOk(tx, j, n, path, root); got != moved {
				t.Errorf("the path %d in place %d of %+v: %v", i, j, x, got)
			}
		}
		for _, other := range changedBytes(tx) {
			if impl.PathOk(other, i, n, path, root) {
				t.Errorf("%v is accepted as transaction %d of %+v", other, i, x)
			}
		}
	}
}

func TestRootsOfBlocks(t *testing.T) {
	for n := 1; n <= impl.MaxSigners; n++ {
		for _, l := range blockLimits(n) {
			for _, x := range validBlocks(l) {
				made, _ := impl.BlockOf(l, headOfSet(1, n), x.Txs)
				checkTreeRoot(t, made)
				b, _ := impl.PutBlock(l, nil, made)
				read, _, code := impl.GetBlock(l, b, 0)
				checkTreeRoot(t, read)
				if code != impl.ErOk || !impl.BlockOk(l, x) {
					t.Errorf("the block of %v: %d", x.Txs, code)
				}
			}
		}
	}
}

func TestEveryTxHasPath(t *testing.T) {
	for n := 1; n <= impl.MaxSigners; n++ {
		for _, l := range blockLimits(n) {
			for _, x := range validBlocks(l) {
				checkEveryTx(t, l, x)
			}
		}
	}
	for count := range impl.MaxTxs + 1 {
		checkEveryTx(t, mostFor(4), blockWith(numbered(count)...))
	}
	for _, txs := range shortLists(4, nil, []byte{0}, []byte{1}) {
		checkEveryTx(t, limitsFor(4), blockWith(txs...))
	}
}

// A block that is recovered has the paths of the one that was written.
func TestPathsOfRecoveredBlocks(t *testing.T) {
	for _, l := range someLimits {
		for _, x := range validBlocks(l) {
			b, _ := impl.PutBlock(l, nil, x)
			read, _, _ := impl.GetBlock(l, b, 0)
			for i := range x.Txs {
				want, _ := impl.BlockPath(l, x, i)
				got, ok := impl.BlockPath(l, read, i)
				checkPath(t, "the path of a recovered block", got, ok, want)
			}
		}
	}
}

// Two lists of transactions have the same Root only if they are equal: a block
// with the Root of one and the transactions of the other is not valid.
func TestRootsTellTxs(t *testing.T) {
	lists := shortLists(4, nil, []byte{0}, []byte{1, 0})
	var blocks []impl.Block
	for _, txs := range lists {
		blocks = append(blocks, blockWith(txs...))
	}
	for _, x := range blocks {
		for _, y := range blocks {
			if got := impl.BlockOk(limitsFor(4), impl.Block{Head: x.Head, Txs: y.Txs}); got != sameList(x.Txs, y.Txs) {
				t.Errorf("the Root of %v with %v: %v", x.Txs, y.Txs, got)
			}
		}
	}
}

// A path is of no use where one of its hashes is changed, missing or added, or
// where Root is that of another block.
func TestDamagedPathsOfBlocks(t *testing.T) {
	l := mostFor(4)
	for count := range impl.MaxTxs + 1 {
		x := blockWith(numbered(count)...)
		for i, tx := range x.Txs {
			path, _ := impl.BlockPath(l, x, i)
			for _, other := range changedLists(path) {
				if impl.PathOk(tx, i, count, other, x.Head.Root) {
					t.Errorf("transaction %d of %d is accepted with %x", i, count, other)
				}
			}
			for _, txs := range changedLists(x.Txs) {
				if impl.PathOk(tx, i, count, path, blockWith(txs...).Head.Root) {
					t.Errorf("transaction %d of %d is accepted with the Root of %v", i, count, txs)
				}
			}
		}
	}
}

// The path of a transaction depends on the transactions alone, not on the header.
func TestPathsOfOtherHeaders(t *testing.T) {
	for _, h := range append(someHeads(4), headWith(0), headWith(15)) {
		x := blockOver(h, numbered(4))
		for i := range x.Txs {
			want, _ := impl.BlockPath(limitsFor(4), blockWith(x.Txs...), i)
			got, ok := impl.BlockPath(limitsFor(4), x, i)
			checkPath(t, "the path with another header", got, ok, want)
		}
	}
}
