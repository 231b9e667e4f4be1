package tests

import (
	"bytes"
	"math"
	"slices"
	"testing"

	"loop.example/g00790/impl"
)

// P12 for chapter 15: every function returns what the chapter specifies. The
// tests of BlockOf and BlockPath stand in l14_of_test.go.

// blockOver returns a block with the header h, valid or not, in which Root is
// that of the transactions.
func blockOver(h impl.Head, txs [][]byte) impl.Block {
	x := impl.Block{Head: cloneHead(h), Txs: txs}
	x.Head.Root = goRoot(txs)
	return x
}

func blockWith(txs ...[]byte) impl.Block { return blockOver(oneHead(), txs) }

// oneBlock returns a block of four validators with three transactions.
func oneBlock() impl.Block { return blockWith([]byte{1}, []byte{2, 3}, filled(10, 4)) }

func cloneBlock(x impl.Block) impl.Block {
	return impl.Block{Head: cloneHead(x.Head), Txs: deepClone(x.Txs)}
}

// mostFor are limits of n validators that allow the longest lists of the longest transactions.
func mostFor(n int) impl.Limits {
	return impl.Limits{N: n, Tx: 40, Txs: 8, Frame: 4000, Heads: 5}
}

// blockLimits allow no transactions, only empty ones, some, and the most.
func blockLimits(n int) []impl.Limits {
	return []impl.Limits{
		{N: n, Tx: 10, Txs: 0, Frame: 4000, Heads: 5},
		{N: n, Tx: 0, Txs: 3, Frame: 1, Heads: 3},
		{N: n, Tx: 1, Txs: 1, Frame: 9, Heads: 4},
		limitsFor(n),
		mostFor(n),
	}
}

// someTxs are lists of transactions of every number up to the most: of different
// ones, of equal ones, of empty ones, of ones of the greatest length, and mixed.
func someTxs(l impl.Limits) [][][]byte {
	var lists [][][]byte
	for n := range l.Txs + 1 {
		var different, mixed [][]byte
		longest := mixedBytes(l.Tx, n)
		for i := range n {
			different = append(different, mixedBytes(i*7%(l.Tx+1), i+n))
			mixed = append(mixed, [][]byte{longest, nil, longest[:l.Tx/2], {}}[i%4])
		}
		equal := slices.Repeat([][]byte{longest[:l.Tx/2]}, n)
		lists = append(lists, different, mixed, equal, slices.Repeat([][]byte{{}}, n), slices.Repeat([][]byte{longest}, n))
	}
	return lists
}

// validBlocks are valid blocks, each with a header of its own.
func validBlocks(l impl.Limits) []impl.Block {
	var list []impl.Block
	heads := someHeads(l.N)
	for i, txs := range someTxs(l) {
		list = append(list, blockOver(heads[i*5%len(heads)], txs))
	}
	return list
}

// writtenTxsOk reports whether there are no more transactions and no longer ones
// than the limits say.
func writtenTxsOk(l impl.Limits, txs [][]byte) bool {
	tooLong := func(tx []byte) bool { return len(tx) > l.Tx }
	return len(txs) <= l.Txs && !slices.ContainsFunc(txs, tooLong)
}

func writtenBlockOk(l impl.Limits, x impl.Block) bool {
	return writtenHeadOk(l, x.Head) && writtenTxsOk(l, x.Txs) && bytes.Equal(x.Head.Root, goRoot(x.Txs))
}

func writtenBlockSame(a, b impl.Block) bool {
	return writtenHeadSame(a.Head, b.Head) && sameList(a.Txs, b.Txs)
}

// partsOfRawBlock are the encodings of all parts of a block: first those of its
// header, then the number of transactions, then the length and the bytes of each.
func partsOfRawBlock(x impl.Block) [][]byte {
	parts := append(partsOfRawHead(x.Head), varint(len(x.Txs)))
	for _, tx := range x.Txs {
		parts = append(parts, varint(len(tx)), tx)
	}
	return parts
}

// countPart is the place of the number of transactions among the parts of a block.
const countPart = 10

// rawBlock puts the parts of a block together, valid or not.
func rawBlock(x impl.Block) []byte { return slices.Concat(partsOfRawBlock(x)...) }

// writtenGetBlock names the parts one by one, as the chapter does.
func writtenGetBlock(l impl.Limits, b []byte, at int) (impl.Block, int, int) {
	none := impl.Block{}
	h, next, er := writtenGetHead(l, b, at)
	if er != impl.ErOk {
		return none, 0, er
	}
	count, next, er := impl.GetVar(b, next)
	if er != impl.ErOk {
		return none, 0, er
	}
	if count > l.Txs {
		return none, 0, impl.ErLong
	}
	x := impl.Block{Head: h}
	for range count {
		var tx []byte
		tx, next, er = impl.GetText(b, next, l.Tx)
		if er != impl.ErOk {
			return none, 0, er
		}
		x.Txs = append(x.Txs, tx)
	}
	if !bytes.Equal(h.Root, goRoot(x.Txs)) {
		return none, 0, impl.ErRoot
	}
	return x, next, impl.ErOk
}

// otherBlocks are blocks that differ from x in one part of the header, in one
// transaction, in the order of two, or in their number.
func otherBlocks(x impl.Block) []impl.Block {
	var list []impl.Block
	for _, h := range otherHeads(x.Head) {
		list = append(list, impl.Block{Head: h, Txs: deepClone(x.Txs)})
	}
	for _, txs := range changedLists(x.Txs) {
		list = append(list, impl.Block{Head: cloneHead(x.Head), Txs: txs})
	}
	return list
}

var blockCodec = codec[impl.Block]{
	name: "Block", ok: impl.BlockOk, same: impl.BlockSame, put: impl.PutBlock, get: impl.GetBlock,
	writtenOk: writtenBlockOk, writtenSame: writtenBlockSame, writtenGet: writtenGetBlock, raw: rawBlock,
	others: otherBlocks, clone: cloneBlock, hold: holdBlock, parts: partsOfBlock, ruin: overwriteBlock,
}

// A knownBlock is a block whose Root is written down, and the encoding of its transactions.
type knownBlock struct {
	l    impl.Limits
	txs  [][]byte
	root string
	want []byte
}

// The roots were computed with hashlib of Python.
func knownBlocks() []knownBlock {
	five, nine := filled(10, 5), filled(40, 9)
	nines := slices.Repeat(append([]byte{40}, nine...), 8)
	return []knownBlock{
		{limitsFor(4), nil, "e3b0c44298fc1c149afbf4c8996fb92427ae41e4649b934ca495991b7852b855", []byte{0}},
		{blockLimits(4)[0], nil, "e3b0c44298fc1c149afbf4c8996fb92427ae41e4649b934ca495991b7852b855", []byte{0}},
		{limitsFor(4), [][]byte{nil}, "6e340b9cffb37a989ca544e6bb780a2c78901d3fb33738768511a30617afa01d", []byte{1, 0}},
		{limitsFor(4), [][]byte{{1}, {2, 3}}, "2de50f0326e806cdaf4f05ecb2be5aa38c3bb5b9d45e50cc8573f5e47a223646", []byte{2, 1, 1, 2, 2, 3}},
		{limitsFor(4), [][]byte{five, {}, five}, "2390be9820efa7391301e65cc499b3d0820412d82fcd7d9c54beaf6e52661b42", slices.Concat([]byte{3, 10}, five, []byte{0, 10}, five)},
		{mostFor(4), slices.Repeat([][]byte{nine}, 8), "72c1b05d3d62158def12fcc4fffae8594de3212c6b8d56f585423e3cc3453279", append([]byte{8}, nines...)},
	}
}

func TestBlockKnown(t *testing.T) {
	parent, tag := filled(32, 7), filled(32, 6)
	for _, k := range knownBlocks() {
		h := impl.Head{View: 300, Height: 129, Proposer: 3, Parent: parent, Root: fromHex(t, k.root), Qc: impl.Qc{View: 128, Height: 128, Block: parent, Bits: []byte{4}, Tags: [][]byte{tag}}}
		head := slices.Concat([]byte{172, 2, 129, 1, 3}, parent, h.Root, []byte{128, 1, 128, 1}, parent, []byte{4}, tag)
		blockCodec.checkKnown(t, k.l, impl.Block{Head: h, Txs: k.txs}, append(head, k.want...))
	}
}

// Blocks of every number of validators have no transaction, one, some and the most.
func TestBlocksOfEverySize(t *testing.T) {
	for n := 1; n <= impl.MaxSigners; n++ {
		for _, l := range blockLimits(n) {
			for _, x := range validBlocks(l) {
				blockCodec.checkValid(t, l, x)
			}
		}
		for _, h := range someHeads(n) {
			blockCodec.checkValid(t, limitsFor(n), blockOver(h, [][]byte{{1}, {2, 3}}))
		}
	}
	for _, l := range someLimits {
		for _, x := range validBlocks(l) {
			blockCodec.checkValid(t, l, x)
		}
	}
}

// checkTooLong is for a block of which only the number or the length of its
// transactions is against the limits.
func checkTooLong(t *testing.T, l impl.Limits, x impl.Block) {
	t.Helper()
	blockCodec.checkInvalid(t, l, x)
	blockCodec.checkNoneAt(t, l, rawBlock(x), 0, impl.ErLong)
}

// Every number of transactions meets every limit of it.
func TestBlockTxs(t *testing.T) {
	for most := range impl.MaxTxs + 1 {
		for _, size := range []int{0, 1, 10, 40} {
			l := impl.Limits{N: 4, Tx: size, Txs: most, Frame: 1, Heads: 3}
			for _, count := range []int{0, 1, 2, 3, 4, 5, 6, 7, 8, 9, 10, 16, 127, 128, 300} {
				x := blockWith(slices.Repeat([][]byte{mixedBytes(size, 3)}, count)...)
				if count <= most {
					blockCodec.checkValid(t, l, x)
				} else {
					checkTooLong(t, l, x)
				}
			}
		}
	}
}

// Every length meets every limit of it; the transaction stands at any place.
func TestBlockTxSizes(t *testing.T) {
	for most := range impl.MaxTx + 1 {
		l := impl.Limits{N: 4, Tx: most, Txs: 3, Frame: 1, Heads: 3}
		for _, size := range []int{0, 1, most - 1, most, most + 1, most + 2, 40, 41, 127, 128, 129, 300, 5000} {
			for place := range 3 {
				txs := slices.Repeat([][]byte{filled(most/2, 1)}, 3)
				txs[place] = mixedBytes(max(size, 0), size)
				for _, list := range [][][]byte{txs, txs[:place+1], txs[place:]} {
					if size <= most {
						blockCodec.checkValid(t, l, blockWith(list...))
					} else {
						checkTooLong(t, l, blockWith(list...))
					}
				}
			}
		}
	}
}

// A header that is not valid spoils a block whose transactions are those of its Root.
func TestBlocksOfOtherHeads(t *testing.T) {
	l := limitsFor(4)
	for _, whole := range []impl.Block{oneBlock(), blockWith(), blockWith(nil), blockOver(headWith(0), [][]byte{{7}})} {
		for _, h := range slices.Concat(otherHeads(whole.Head), oddHeads(), someHeads(4)) {
			x := impl.Block{Head: h, Txs: whole.Txs}
			blockCodec.checkOk(t, l, nil, x, writtenBlockOk(l, x))
			x = blockOver(h, whole.Txs)
			if h.Root = x.Head.Root; writtenHeadOk(l, h) {
				blockCodec.checkValid(t, l, x)
			} else {
				blockCodec.checkInvalid(t, l, x)
			}
		}
	}
	for n := 1; n <= impl.MaxSigners; n++ {
		for _, proposer := range notSigners(n) {
			x := blockOver(headOfSet(1, n), [][]byte{{1}})
			x.Head.Proposer = proposer
			blockCodec.checkInvalid(t, limitsFor(n), x)
			blockCodec.checkInput(t, limitsFor(n), rawBlock(x), 0)
		}
	}
}

// checkOtherRoot gives the block another Root, one that is not of its transactions.
func checkOtherRoot(t *testing.T, l impl.Limits, x impl.Block, root []byte) {
	t.Helper()
	x.Head.Root = root
	blockCodec.checkInvalid(t, l, x)
	if len(root) == 32 {
		blockCodec.checkNoneAt(t, l, rawBlock(x), 0, impl.ErRoot)
	}
}

// Every byte of Root differs, or Root is no hash.
func TestBlockRoots(t *testing.T) {
	for _, l := range []impl.Limits{limitsFor(4), mostFor(4)} {
		for _, txs := range someTxs(l) {
			x := blockWith(txs...)
			for i := range 32 {
				for _, c := range []byte{1, 128, 255} {
					root := bytes.Clone(x.Head.Root)
					root[i] ^= c
					checkOtherRoot(t, l, x, root)
				}
			}
			for _, root := range append(notHashes(), x.Head.Root[:31], append(bytes.Clone(x.Head.Root), 0), filled(32, 0), filled(32, 255), goHash(7)) {
				checkOtherRoot(t, l, x, root)
			}
		}
	}
}

// Root is of the same transactions in another order, of one less or of one more,
// of one that is changed, or of nodes and leaves in the place of each other.
func TestBlockRootsOfOtherTxs(t *testing.T) {
	l := mostFor(4)
	for _, txs := range someTxs(l) {
		x := blockWith(txs...)
		for _, other := range changedLists(txs) {
			checkOtherRoot(t, l, x, goRoot(other))
		}
		// The hash of one empty transaction, and that of no transactions.
		if len(txs) != 1 || len(txs[0]) > 0 {
			checkOtherRoot(t, l, x, goHash(0))
		}
		if len(txs) > 0 {
			checkOtherRoot(t, l, x, goRoot(nil))
			checkOtherRoot(t, l, x, goHash(1, txs...))
		}
		if len(txs) > 1 {
			checkOtherRoot(t, l, x, goHash(0, txs...))
		}
	}
	first, second := []byte{1}, []byte{2, 3}
	x := blockWith(first, second)
	for _, root := range [][]byte{goHash(0, first), goHash(0, second), goHash(0, first, second), goHash(1, first, second), goHash(0, goHash(0, first), goHash(0, second)), goHash(1, goHash(0, second), goHash(0, first))} {
		checkOtherRoot(t, l, x, root)
	}
	checkOtherRoot(t, l, blockWith(first), first)
	checkOtherRoot(t, l, blockWith(goHash(1)), goHash(1))
}

// Every part takes valid and other values together with those of all other parts.
func TestBlockParts(t *testing.T) {
	other := oneHead()
	other.Qc.Bits = []byte{16}
	heads := []impl.Head{oneHead(), headWith(0), other, headOver(qcWith(1, 0)), {}}
	lists := [][][]byte{nil, {}, {nil}, {{1}}, {{1}, {2, 3}}, {{2, 3}, {1}}, {filled(10, 1)}, {filled(11, 1)}, slices.Repeat([][]byte{{1}}, 4), slices.Repeat([][]byte{{1}}, 5)}
	for _, l := range []impl.Limits{limitsFor(4), limitsFor(3), limitsFor(10), blockLimits(4)[0], blockLimits(4)[1], mostFor(4), {N: 4, Tx: 41, Txs: 8, Frame: 1, Heads: 3}, {N: 4, Tx: 40, Txs: 9, Frame: 1, Heads: 3}, {}} {
		for _, h := range heads {
			for _, txs := range lists {
				for _, others := range append(lists, nil) {
					x := blockOver(h, txs)
					x.Txs = others
					blockCodec.checkOk(t, l, nil, x, writtenBlockOk(l, x))
				}
			}
		}
	}
}

func TestBlockLimits(t *testing.T) {
	for _, base := range append(someLimits, limitsFor(4)) {
		empty := blockOver(headOfSet(1, base.N), nil)
		blockCodec.checkLimits(t, base, empty)
		for _, txs := range someTxs(base) {
			x := blockOver(headOfSet(1, base.N), txs)
			for _, f := range limitFields {
				for _, n := range f.edges() {
					l := f.with(base, n)
					blockCodec.checkOk(t, l, nil, x, writtenBlockOk(l, x))
					blockCodec.checkInput(t, l, rawBlock(x), 0)
				}
			}
		}
	}
	blockCodec.checkInvalid(t, impl.Limits{}, impl.Block{})
	blockCodec.checkInvalid(t, limitsFor(4), impl.Block{})
	blockCodec.checkInvalid(t, limitsFor(4), blockOver(impl.Head{}, nil))
}

func TestBlockOfWrongLimits(t *testing.T) {
	mismatch, tooMany, tooLong := oneBlock(), blockWith(numbered(9)...), blockWith(filled(41, 1))
	mismatch.Head.Root = goHash(1)
	inputs := [][]byte{nil, {}, {0}, {128}, {128, 0}, {1, 0}, rawBlock(oneBlock()), rawBlock(oneBlock())[:170], rawBlock(mismatch), rawBlock(tooMany), rawBlock(tooLong), filled(300, 255), filled(300, 0)}
	blockCodec.checkWrongLimits(t, inputs, oneBlock(), blockWith(), mismatch, tooMany, tooLong, impl.Block{})
}

func TestBlockOffsets(t *testing.T) {
	blockCodec.checkOffsets(t, limitsFor(4), rawBlock(oneBlock()), rawBlock(blockWith()), filled(300, 1), filled(300, 128))
}

func TestBlockSameOfOneDifference(t *testing.T) {
	odd := []impl.Block{{}, {Head: impl.Head{View: -7, Root: []byte{1}}, Txs: [][]byte{nil, {}, {5}, filled(50, 3)}}, {Txs: numbered(12)}}
	for _, x := range append(odd, oneBlock(), blockWith(), blockWith(nil), blockOver(headWith(255, 3), [][]byte{{1}, {1}, {2}})) {
		blockCodec.checkDifferences(t, x)
	}
}

// Small blocks meet one another: every list of up to three short transactions,
// with headers that differ in one field or not at all.
func TestBlockSameOfSmallBlocks(t *testing.T) {
	var list []impl.Block
	for _, txs := range shortLists(3, nil, []byte{}, []byte{0}, []byte{0, 0}) {
		for _, h := range []impl.Head{{}, {View: 1}, {Root: []byte{0}}, {Root: []byte{}, Qc: impl.Qc{Bits: []byte{}}}, {Qc: impl.Qc{Tags: [][]byte{{}}}}} {
			list = append(list, impl.Block{Head: h, Txs: txs})
		}
	}
	blockCodec.checkEachPair(t, list)
}

// Bytes of one transaction may not stand in another one.
func TestBlockSameOfShiftedTxs(t *testing.T) {
	whole := mixedBytes(6, 3)
	var list []impl.Block
	for first := range len(whole) + 1 {
		for second := first; second <= len(whole); second++ {
			list = append(list, blockWith(whole[:first], whole[first:second], whole[second:]))
		}
		list = append(list, blockWith(whole[:first], whole[first:]))
	}
	for i, a := range list {
		for j, b := range list {
			a.Head, b.Head = oneHead(), oneHead()
			blockCodec.checkSame(t, a, b, i == j)
		}
	}
}

func TestBlockOfNil(t *testing.T) {
	l := limitsFor(4)
	for _, b := range [][]byte{nil, {}} {
		blockCodec.checkOk(t, l, b, oneBlock(), true)
		blockCodec.checkNoneAt(t, l, b, 0, impl.ErShort)
	}
	for _, txs := range [][][]byte{nil, {}, make([][]byte, 0, 3)} {
		blockCodec.checkValid(t, l, blockWith(txs...))
		blockCodec.checkSame(t, impl.Block{Txs: txs}, impl.Block{}, true)
		blockCodec.checkSame(t, blockWith(txs...), blockWith(), true)
		blockCodec.checkSame(t, impl.Block{Txs: txs}, impl.Block{Txs: [][]byte{nil}}, false)
		blockCodec.checkSame(t, impl.Block{Txs: txs}, impl.Block{Txs: [][]byte{{}}}, false)
		blockCodec.checkInvalid(t, l, impl.Block{Txs: txs})
	}
	nils, empty, turns := nilLists(4)
	for _, a := range [][][]byte{nils, empty, turns} {
		blockCodec.checkValid(t, l, blockWith(a...))
		for _, b := range [][][]byte{nils, empty, turns} {
			blockCodec.checkSame(t, blockWith(a...), blockWith(b...), true)
			blockCodec.checkSame(t, blockWith(a...), blockWith(b[1:]...), false)
		}
	}
}

// The numbers that stand in a block take all ints.
func TestBlockNumbers(t *testing.T) {
	l := limitsFor(4)
	for _, in := range headNumbers {
		for _, n := range slices.Concat(edgeNumbers(), notNumbers, []int{math.MinInt, 4, 300, 301}) {
			x := oneBlock()
			*in(&x.Head) = n
			blockCodec.checkOk(t, l, nil, x, writtenBlockOk(l, x))
			blockCodec.checkInput(t, l, rawBlock(x), 0)
		}
	}
}
