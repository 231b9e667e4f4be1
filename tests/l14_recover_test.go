package tests

import (
	"slices"
	"testing"

	"loop.example/g00790/impl"
)

// P4 for chapter 15: a block is recovered from its encoding, and every input is
// the encoding of one valid block or has its first error.

func TestBlocksRecovered(t *testing.T) {
	for n := 1; n <= impl.MaxSigners; n++ {
		for _, l := range blockLimits(n) {
			for _, x := range validBlocks(l) {
				blockCodec.checkRecovered(t, l, x)
			}
		}
		for _, h := range someHeads(n) {
			blockCodec.checkRecovered(t, limitsFor(n), blockOver(h, [][]byte{{1}, {2, 3}}))
		}
	}
	for _, l := range someLimits {
		for _, x := range validBlocks(l) {
			blockCodec.checkRecovered(t, l, x)
		}
	}
}

// Every list of up to four short transactions is recovered.
func TestShortTxsRecovered(t *testing.T) {
	for _, txs := range shortLists(4, nil, []byte{0}, []byte{1, 0}, []byte{128}) {
		blockCodec.checkRecovered(t, limitsFor(4), blockWith(txs...))
	}
}

func TestRowOfBlocksRecovered(t *testing.T) {
	for _, n := range []int{1, 4, 10} {
		for _, l := range blockLimits(n) {
			blockCodec.checkRow(t, l, validBlocks(l))
		}
	}
}

func TestEncodingsOfBlocksDiffer(t *testing.T) {
	l := mostFor(4)
	for _, x := range []impl.Block{oneBlock(), blockWith(), blockWith(nil), blockWith([]byte{1}, []byte{1})} {
		list := validBlocks(l)
		for _, txs := range changedLists(x.Txs) {
			list = append(list, blockWith(txs...))
		}
		blockCodec.checkOtherEncodings(t, l, x, list)
	}
}

func TestCutBlocks(t *testing.T) {
	for n := 1; n <= impl.MaxSigners; n++ {
		for _, l := range blockLimits(n) {
			for _, x := range validBlocks(l) {
				blockCodec.checkCut(t, l, x)
			}
		}
	}
}

// Each number of the header, that of transactions, and each length is wrong or cut off.
func TestWrongNumbersOfBlocks(t *testing.T) {
	x := blockWith([]byte{1}, nil, []byte{2, 3})
	places := []int{0, 1, 2, 5, 6, countPart, countPart + 1, countPart + 3, countPart + 5}
	eachWrongNumber(partsOfRawBlock(x), places, func(b []byte, code int) {
		t.Helper()
		blockCodec.checkNoneAt(t, limitsFor(4), b, 0, code)
	})
}

// Too large a number of transactions is found before any of them is read.
func TestTooManyTxs(t *testing.T) {
	for n := 1; n <= impl.MaxSigners; n++ {
		for _, l := range blockLimits(n) {
			most := l.Txs
			for _, count := range []int{most + 1, most + 2, 9, 100, 127, 128, 255, 256, 1<<8 + most, 1<<32 + most, 1 << 56, impl.MaxNum - 1, impl.MaxNum} {
				x := blockOver(headOfSet(1, n), slices.Repeat([][]byte{filled(l.Tx, 1)}, min(count, 9)))
				b, end := withPart(partsOfRawBlock(x), countPart, varint(count))
				blockCodec.checkCodeFrom(t, l, b, end, impl.ErLong)
			}
		}
	}
}

// A length that is too large is found before any byte of the transaction is read.
func TestTooLongTxs(t *testing.T) {
	for n := 1; n <= impl.MaxSigners; n++ {
		for _, l := range blockLimits(n) {
			for place := range l.Txs {
				most := l.Tx
				for _, size := range []int{most + 1, most + 2, 41, 127, 128, 256, 1<<8 + most, 1<<32 + most, 1 << 56, impl.MaxNum} {
					txs := slices.Repeat([][]byte{filled(most/2, 1)}, l.Txs)
					txs[place] = filled(min(size, 129), 2)
					b, end := withPart(partsOfRawBlock(blockOver(headOfSet(1, n), txs)), countPart+1+2*place, varint(size))
					blockCodec.checkCodeFrom(t, l, b, end, impl.ErLong)
				}
			}
		}
	}
}

// A length that is allowed, but greater than what is left, is too short.
func TestTxsBehindTheEnd(t *testing.T) {
	l := limitsFor(4)
	for count := 1; count <= 4; count++ {
		for size := 1; size <= 10; size++ {
			for left := range size {
				txs := slices.Repeat([][]byte{{7}}, count)
				txs[count-1] = filled(left, 2)
				b, _ := withPart(partsOfRawBlock(blockWith(txs...)), countPart+2*count-1, varint(size))
				blockCodec.checkNoneAt(t, l, b, 0, impl.ErShort)
			}
		}
	}
	for more := 1; more <= 4; more++ {
		txs := slices.Repeat([][]byte{{7}}, 4-more)
		b, _ := withPart(partsOfRawBlock(blockWith(txs...)), countPart, varint(len(txs)+more))
		blockCodec.checkNoneAt(t, l, b, 0, impl.ErShort)
	}
}

// A Root that does not match is found when all parts are read.
func TestMismatchesOfRoots(t *testing.T) {
	for n := 1; n <= impl.MaxSigners; n++ {
		for _, l := range blockLimits(n) {
			for _, txs := range someTxs(l) {
				x := blockOver(headOfSet(1, n), txs)
				for _, root := range [][]byte{goRoot(append(slices.Clone(txs), nil)), goHash(0, []byte{77}), filled(32, 0)} {
					x.Head.Root = root
					blockCodec.checkCodeFrom(t, l, rawBlock(x), len(rawBlock(x)), impl.ErRoot)
				}
			}
		}
	}
}

// The same transactions stand behind the header in another order, or one less,
// or one more, or one byte further.
func TestOtherTxsBehindTheHeader(t *testing.T) {
	l := mostFor(4)
	for _, txs := range someTxs(l) {
		x := blockWith(txs...)
		for _, other := range changedLists(txs) {
			y := impl.Block{Head: x.Head, Txs: other}
			blockCodec.checkAccepted(t, l, rawBlock(y), 0)
			if writtenTxsOk(l, other) {
				blockCodec.checkNoneAt(t, l, rawBlock(y), 0, impl.ErRoot)
			} else {
				blockCodec.checkNoneAt(t, l, rawBlock(y), 0, impl.ErLong)
			}
		}
	}
}

// What is wrong with the header is found before anything behind it is read.
func TestWrongHeadersOfBlocks(t *testing.T) {
	l := limitsFor(4)
	for _, h := range slices.Concat(oddHeads(), otherHeads(oneHead()), otherHeads(headWith(0))) {
		b := rawHead(h)
		_, _, code := writtenGetHead(l, b, 0)
		for _, behind := range [][]byte{nil, {128}, {128, 0}, {5}, {1, 11}, {1, 1, 1}, {0}, filled(40, 255), filled(300, 0)} {
			blockCodec.checkAccepted(t, l, slices.Concat(b, behind), 0)
			if _, _, er := writtenGetHead(l, slices.Concat(b, behind), 0); code != impl.ErOk && code != impl.ErShort {
				blockCodec.checkNoneAt(t, l, slices.Concat(b, behind), 0, er)
			}
		}
	}
	for n := 1; n <= impl.MaxSigners; n++ {
		for _, bits := range paddedBits(n) {
			x := blockOver(headWith(bits...), [][]byte{{1}})
			blockCodec.checkCodeFrom(t, limitsFor(n), rawBlock(x), len(rawHead(x.Head))-32*len(x.Head.Qc.Tags), impl.ErPad)
		}
		x := blockOver(headOfSet(1, n), [][]byte{{1}})
		x.Head.Qc.Height = x.Head.Height
		blockCodec.checkCodeFrom(t, limitsFor(n), rawBlock(x), len(rawHead(x.Head)), impl.ErOrder)
		x.Head.Proposer = n
		blockCodec.checkCodeFrom(t, limitsFor(n), rawBlock(x), len(slices.Concat(partsOfRawBlock(x)[:3]...)), impl.ErValue)
	}
}

// Two parts are wrong, and the first one has its code.
func TestFirstErrorOfBlocks(t *testing.T) {
	right, other := blockWith([]byte{1}, []byte{2, 3}), blockWith([]byte{1})
	noMatch, noHeight := oneHead(), oneHead()
	noMatch.Qc.Height, noHeight.Height = 0, 0
	whole, rootOfOne, order, value, wrong := rawHead(right.Head), rawHead(other.Head), rawHead(noMatch), rawHead(noHeight), []byte{128, 0}
	blockCodec.checkCodes(t, limitsFor(4), []partsCase{
		{[][]byte{whole, {2}, {1, 1}, {2, 2, 3}}, impl.ErOk},
		{[][]byte{whole, {2}, {1, 1}, {2, 2, 3}, {128, 0}}, impl.ErOk},
		{[][]byte{whole[:20], {128, 0}}, impl.ErShort},
		{[][]byte{value, wrong}, impl.ErValue},
		{[][]byte{wrong, whole, wrong}, impl.ErVar},
		{[][]byte{order, wrong}, impl.ErOrder},
		{[][]byte{order, {5}}, impl.ErOrder},
		{[][]byte{order, {1, 11}}, impl.ErOrder},
		{[][]byte{order, {0}}, impl.ErOrder},
		{[][]byte{order}, impl.ErOrder},
		{[][]byte{whole}, impl.ErShort},
		{[][]byte{whole, wrong, {11}}, impl.ErVar},
		{[][]byte{whole, wrong}, impl.ErVar},
		{[][]byte{whole, {128}}, impl.ErShort},
		{[][]byte{whole, {132, 0}}, impl.ErVar},
		{[][]byte{whole, {132, 1}}, impl.ErLong},
		{[][]byte{whole, {5}}, impl.ErLong},
		{[][]byte{whole, {5}, wrong}, impl.ErLong},
		{[][]byte{whole, {5}, {11}}, impl.ErLong},
		{[][]byte{whole, {5}, filled(10, 0)}, impl.ErLong},
		{[][]byte{whole, {4}}, impl.ErShort},
		{[][]byte{whole, {4}, {11}}, impl.ErLong},
		{[][]byte{whole, {4}, {10}}, impl.ErShort},
		{[][]byte{whole, {2}, wrong, {1}}, impl.ErVar},
		{[][]byte{whole, {2}, {138}}, impl.ErShort},
		{[][]byte{whole, {2}, {138, 0}}, impl.ErVar},
		{[][]byte{whole, {2}, {138, 1}}, impl.ErLong},
		{[][]byte{whole, {2}, {1, 1}}, impl.ErShort},
		{[][]byte{whole, {2}, {1, 1}, {11}}, impl.ErLong},
		{[][]byte{whole, {2}, {1, 1}, {11, 2, 3}}, impl.ErLong},
		{[][]byte{whole, {2}, {1, 1}, {3, 2, 3}}, impl.ErShort},
		{[][]byte{whole, {2}, {11, 1}, wrong}, impl.ErLong},
		{[][]byte{whole, {2}, {1, 1}, wrong}, impl.ErVar},
		{[][]byte{whole, {2}, {1, 2}, wrong}, impl.ErVar},
		{[][]byte{whole, {2}, {1, 2}, {11}}, impl.ErLong},
		{[][]byte{whole, {2}, {1, 2}, {2, 2}}, impl.ErShort},
		{[][]byte{whole, {2}, {1, 2}, {2, 2, 3}}, impl.ErRoot},
		{[][]byte{whole, {2}, {1, 1}, {2, 3, 2}}, impl.ErRoot},
		{[][]byte{whole, {2}, {2, 2, 3}, {1, 1}}, impl.ErRoot},
		{[][]byte{whole, {1}, {1, 1}, {2, 2, 3}}, impl.ErRoot},
		{[][]byte{whole, {0}, {1, 1}, {2, 2, 3}}, impl.ErRoot},
		{[][]byte{whole, {3}, {1, 1}, {2, 2, 3}}, impl.ErShort},
		{[][]byte{whole, {3}, {1, 1}, {2, 2, 3}, {0}}, impl.ErRoot},
		{[][]byte{whole, {1}, {3, 1, 2, 3}}, impl.ErRoot},
		{[][]byte{rootOfOne, {2}, {1, 1}, {2, 2, 3}}, impl.ErRoot},
		{[][]byte{rootOfOne, {1}, {1, 1}, {2, 2, 3}}, impl.ErOk},
		{[][]byte{rootOfOne, {1}, {1, 1}, wrong}, impl.ErOk},
	})
}

// A block that some limits allow is read with others.
func TestBlockOfOtherLimits(t *testing.T) {
	x := oneBlock()
	b := rawBlock(x)
	for most := range impl.MaxTxs + 1 {
		for size := range impl.MaxTx + 1 {
			l := impl.Limits{N: 4, Tx: size, Txs: most, Frame: 1, Heads: 3}
			blockCodec.checkAccepted(t, l, b, 0)
			if most >= 3 && size >= 10 {
				blockCodec.checkAt(t, l, b, 0, x, len(b), impl.ErOk)
			} else {
				blockCodec.checkNoneAt(t, l, b, 0, impl.ErLong)
			}
		}
	}
	for from := 1; from <= impl.MaxSigners; from++ {
		for to := 1; to <= impl.MaxSigners; to++ {
			for _, set := range []int{0, 1, 1<<from - 1} {
				x := blockOver(headOfSet(set, from), [][]byte{{1}, nil})
				blockCodec.checkAccepted(t, limitsFor(to), rawBlock(x), 0)
				if (from > 8) == (to > 8) && set < 1<<to {
					blockCodec.checkAt(t, limitsFor(to), rawBlock(x), 0, x, len(rawBlock(x)), impl.ErOk)
				}
			}
		}
	}
}

func TestChangedBytesOfBlocks(t *testing.T) {
	for _, x := range []impl.Block{oneBlock(), blockWith(), blockOver(headWith(0), [][]byte{{}, {0}, filled(10, 255)})} {
		blockCodec.checkChangedBytes(t, limitsFor(4), x)
	}
}

// A byte of Root or behind the header that is changed leaves no block: Root has
// to match.
func TestChangedBytesOfTxs(t *testing.T) {
	l := limitsFor(4)
	for _, x := range pureBlocks() {
		whole, head := rawBlock(x), len(rawHead(x.Head))
		root := len(slices.Concat(partsOfRawBlock(x)[:4]...))
		for i := range whole {
			if i < root || i >= root+32 && i < head {
				continue
			}
			for c := 1; c < 256; c++ {
				b := slices.Concat(whole, filled(20, byte(c)))
				b[i] ^= byte(c)
				if got, _, er := impl.GetBlock(l, b, 0); er == impl.ErOk {
					t.Errorf("byte %d of %v replaced by %d: %+v", i, whole, b[i], got)
				}
				blockCodec.checkAccepted(t, l, b, 0)
			}
		}
	}
}

func TestShiftedBytesOfBlocks(t *testing.T) {
	for _, x := range []impl.Block{oneBlock(), blockWith(), blockOver(headWith(6), [][]byte{nil, nil}), blockOver(headWith(0), [][]byte{{1}, {1}, {1, 1}})} {
		blockCodec.checkShiftedBytes(t, limitsFor(4), x, 0, 1, 2, 4, 5, 10, 11, 127, 128, 255)
	}
}

// Short strings stand behind a header whose Root is that of some transactions.
func TestBlockInputs(t *testing.T) {
	l := limitsFor(4)
	accepted := 0
	var heads [][]byte
	for _, txs := range [][][]byte{nil, {nil}, {{1}}, {nil, nil}, {{1}, {1}}, {{1, 1}}, {nil, nil, nil, nil}} {
		heads = append(heads, rawHead(blockWith(txs...).Head))
	}
	eachInput([]byte{0, 1, 2, 4, 5, 128, 255}, 5, func(b []byte) {
		for _, head := range heads {
			input := slices.Concat(head, b)
			blockCodec.checkAccepted(t, l, input, 0)
			if _, next, er := impl.GetBlock(l, input, 0); er == impl.ErOk && next == len(input) {
				accepted++
			}
		}
	})
	if accepted != len(heads) {
		t.Errorf("%d inputs behind %d headers are accepted", accepted, len(heads))
	}
	for i, head := range heads {
		eachInput([]byte{0, 1, 4, 5, 10, 11, 128}, 3, func(b []byte) {
			blockCodec.checkAccepted(t, l, slices.Concat([]byte{7}, b, head, b, head), 1+len(b))
			blockCodec.checkAccepted(t, blockLimits(4)[i%5], slices.Concat(head, b, filled(50, 0)), 0)
		})
	}
}
