package tests

import (
	"slices"
	"testing"

	"loop.example/g00790/impl"
)

// P4 for chapter 14: a header is recovered from its encoding, and every input is
// the encoding of one valid header or has its first error.

func TestHeadsRecovered(t *testing.T) {
	for n := 1; n <= impl.MaxSigners; n++ {
		for _, h := range someHeads(n) {
			headCodec.checkRecovered(t, limitsFor(n), h)
		}
	}
	for _, l := range someLimits {
		for _, set := range []int{0, 1, 1 << (l.N - 1), 1<<l.N - 1} {
			h := headOfSet(set, l.N)
			for h.Proposer = range l.N {
				headCodec.checkRecovered(t, l, h)
			}
		}
	}
}

func TestNumbersOfHeadsRecovered(t *testing.T) {
	for _, n := range someNumbers() {
		if n < 1 {
			continue
		}
		h := oneHead()
		h.View, h.Qc.View = n, n-1
		headCodec.checkRecovered(t, limitsFor(4), h)
		h.Qc.View = 0
		headCodec.checkRecovered(t, limitsFor(4), h)
		h.Height, h.Qc.Height = n, n-1
		headCodec.checkRecovered(t, limitsFor(4), h)
	}
}

func TestRowOfHeadsRecovered(t *testing.T) {
	for _, n := range []int{1, 4, 10} {
		headCodec.checkRow(t, limitsFor(n), someHeads(n))
	}
}

func TestEncodingsOfHeadsDiffer(t *testing.T) {
	for _, h := range []impl.Head{headWith(0, 0), headWith(5, 2), headWith(255, 3)} {
		headCodec.checkOtherEncodings(t, limitsFor(10), h, someHeads(10))
	}
}

func TestCutHeads(t *testing.T) {
	for n := 1; n <= impl.MaxSigners; n++ {
		for _, h := range someHeads(n) {
			headCodec.checkCut(t, limitsFor(n), h)
		}
	}
}

func TestWrongNumbersOfHeads(t *testing.T) {
	l := limitsFor(4)
	eachWrongNumber(partsOfRawHead(oneHead()), []int{0, 1, 2, 5, 6}, func(b []byte, code int) {
		t.Helper()
		headCodec.checkNoneAt(t, l, b, 0, code)
	})
}

// Height 0 is found before anything behind it is read.
func TestHeightsZeroOfHeads(t *testing.T) {
	for n := 1; n <= impl.MaxSigners; n++ {
		for _, h := range []impl.Head{headOfSet(0, n), headOfSet(1<<n-1, n)} {
			for _, h.Qc.Height = range []int{0, 2, impl.MaxNum} {
				h.Height = 0
				headCodec.checkCodeFrom(t, limitsFor(n), rawHead(h), len(varint(h.View))+1, impl.ErValue)
			}
		}
	}
}

// A proposer that does not exist is found before anything behind it is read.
func TestWrongProposersOfHeads(t *testing.T) {
	for n := 1; n <= impl.MaxSigners; n++ {
		h := headOfSet(1, n)
		for _, h.Proposer = range []int{n, n + 1, n + 100, 127, 128, 255, 256, 16384, 1<<32 + n - 1, 1 << 56, impl.MaxNum} {
			place := len(slices.Concat(partsOfRawHead(h)[:3]...))
			headCodec.checkCodeFrom(t, limitsFor(n), rawHead(h), place, impl.ErValue)
		}
	}
}

// A bit without a signer is found before any tag is read, and before the
// certificate is compared with the header.
func TestWrongBitsOfHeads(t *testing.T) {
	for n := 1; n <= impl.MaxSigners; n++ {
		for _, bits := range paddedBits(n) {
			h := headWith(bits...)
			place := len(rawHead(h)) - 32*len(h.Qc.Tags)
			headCodec.checkCodeFrom(t, limitsFor(n), rawHead(h), place, impl.ErPad)
			h.Qc.View, h.Qc.Height, h.Qc.Block = h.View, h.Height, h.Root
			place = len(rawHead(h)) - 32*len(h.Qc.Tags)
			headCodec.checkCodeFrom(t, limitsFor(n), rawHead(h), place, impl.ErPad)
		}
	}
}

// A certificate that does not match is found when all parts are read.
func TestMismatchesOfHeads(t *testing.T) {
	for n := 1; n <= impl.MaxSigners; n++ {
		for _, set := range []int{0, 1, 1<<n - 1} {
			for ways := 1; ways < 8; ways++ {
				h := headOfSet(set, n)
				if ways&1 > 0 {
					h.Qc.View = h.View
				}
				if ways&2 > 0 {
					h.Qc.Height = h.Height
				}
				if ways&4 > 0 {
					h.Parent = h.Root
				}
				headCodec.checkCodeFrom(t, limitsFor(n), rawHead(h), len(rawHead(h)), impl.ErOrder)
			}
		}
	}
}

// Two parts are wrong, and the first one has its code.
func TestFirstErrorOfHeads(t *testing.T) {
	h := headWith(5)
	wrong, none, large, padded, other := []byte{128, 0}, []byte{0}, []byte{4}, []byte{16}, filled(32, 1)
	view, height, proposer, parent, root := varint(h.View), varint(h.Height), varint(h.Proposer), h.Parent, h.Root
	before, below, tags := varint(h.Qc.View), varint(h.Qc.Height), slices.Concat(h.Qc.Tags...)
	headCodec.checkCodes(t, limitsFor(4), []partsCase{
		{[][]byte{view, height, proposer, parent, root, before, below, parent, {5}, tags}, impl.ErOk},
		{[][]byte{wrong, none, large, parent, root, wrong, below, parent, padded, tags}, impl.ErVar},
		{[][]byte{wrong, none}, impl.ErVar},
		{[][]byte{wrong}, impl.ErVar},
		{[][]byte{view, none, large, parent, root, wrong}, impl.ErValue},
		{[][]byte{view, none, wrong}, impl.ErValue},
		{[][]byte{view, none}, impl.ErValue},
		{[][]byte{view, wrong, large, parent}, impl.ErVar},
		{[][]byte{view, {128}}, impl.ErShort},
		{[][]byte{view, {128, 1}, large}, impl.ErValue},
		{[][]byte{view, height, large, parent, root, wrong}, impl.ErValue},
		{[][]byte{view, height, large, parent[:31]}, impl.ErValue},
		{[][]byte{view, height, large}, impl.ErValue},
		{[][]byte{view, height, wrong, parent[:31]}, impl.ErVar},
		{[][]byte{view, height, {132}}, impl.ErShort},
		{[][]byte{view, height, {132, 1}}, impl.ErValue},
		{[][]byte{view, height, proposer, parent[:31]}, impl.ErShort},
		{[][]byte{view, height, proposer, parent, root[:31]}, impl.ErShort},
		{[][]byte{view, height, proposer, parent, root}, impl.ErShort},
		{[][]byte{view, height, proposer, parent, root, wrong, below, other, padded}, impl.ErVar},
		{[][]byte{view, height, proposer, parent, root, view, wrong, other, padded}, impl.ErVar},
		{[][]byte{view, height, proposer, parent, root, view, height, other[:31]}, impl.ErShort},
		{[][]byte{view, height, proposer, parent, root, view, height, other}, impl.ErShort},
		{[][]byte{view, height, proposer, parent, root, view, height, other, padded}, impl.ErPad},
		{[][]byte{view, height, proposer, parent, root, view, height, other, {21}, tags}, impl.ErPad},
		{[][]byte{view, height, proposer, parent, root, view, height, other, {5}, tags[:63]}, impl.ErShort},
		{[][]byte{view, height, proposer, parent, root, view, height, other, {7}, tags}, impl.ErShort},
		{[][]byte{view, height, proposer, parent, root, view, height, other, {5}, tags}, impl.ErOrder},
		{[][]byte{view, height, proposer, parent, root, view, below, parent, {5}, tags}, impl.ErOrder},
		{[][]byte{view, height, proposer, parent, root, before, height, parent, {5}, tags}, impl.ErOrder},
		{[][]byte{view, height, proposer, parent, root, before, below, other, {5}, tags}, impl.ErOrder},
		{[][]byte{view, height, proposer, other, root, before, below, parent, {5}, tags}, impl.ErOrder},
		{[][]byte{view, height, proposer, other, root, before, below, other, {5}, tags}, impl.ErOk},
		{[][]byte{view, height, proposer, parent, root, none, below, parent, {4}, tags}, impl.ErOk},
		{[][]byte{view, height, proposer, parent, root, none, none, parent, {4}, tags}, impl.ErOrder},
		{[][]byte{none, height, proposer, parent, root, none, below, parent, {5}, tags}, impl.ErOrder},
		{[][]byte{view, {1}, proposer, parent, root, before, none, parent, {0}}, impl.ErOk},
		{[][]byte{view, {1}, proposer, parent, root, before, {1}, parent, {0}}, impl.ErOrder},
	})
}

// A header of other validators is read with the bitmap that the limits ask for.
func TestHeadOfOtherLimits(t *testing.T) {
	for from := 1; from <= impl.MaxSigners; from++ {
		for to := 1; to <= impl.MaxSigners; to++ {
			for _, set := range []int{0, 1, 1 << (from - 1), 1<<from - 1} {
				h := headOfSet(set, from)
				for h.Proposer = range from {
					b := rawHead(h)
					headCodec.checkAccepted(t, limitsFor(to), b, 0)
					sameSize := (from > 8) == (to > 8)
					switch {
					case h.Proposer >= to:
						headCodec.checkNoneAt(t, limitsFor(to), b, 0, impl.ErValue)
					case sameSize && set < 1<<to:
						headCodec.checkAt(t, limitsFor(to), b, 0, h, len(b), impl.ErOk)
					case sameSize:
						headCodec.checkNoneAt(t, limitsFor(to), b, 0, impl.ErPad)
					}
				}
			}
		}
	}
}

func TestChangedBytesOfHeads(t *testing.T) {
	for _, h := range []impl.Head{oneHead(), headWith(0), headOver(impl.Qc{View: 5, Height: 1 << 40, Block: filled(32, 255), Bits: []byte{1}, Tags: [][]byte{filled(32, 128)}})} {
		headCodec.checkChangedBytes(t, limitsFor(4), h)
	}
}

// One byte of Parent and one of the certificate's Block take all values: only
// where both are the same again, the input is accepted.
func TestChangedBytesOfBothParents(t *testing.T) {
	l, h := limitsFor(4), headWith(2)
	for i := range 32 {
		for c := range 256 {
			x := cloneHead(h)
			x.Parent[i], x.Qc.Block[i] = byte(c), byte(c)
			headCodec.checkAccepted(t, l, rawHead(x), 0)
			headCodec.checkAt(t, l, rawHead(x), 0, x, len(rawHead(x)), impl.ErOk)
			x.Qc.Block[i]++
			headCodec.checkNoneAt(t, l, rawHead(x), 0, impl.ErOrder)
		}
	}
}

func TestShiftedBytesOfHeads(t *testing.T) {
	list := []impl.Head{headWith(6), headWith(0), headOver(impl.Qc{View: 1 << 50, Height: 200, Block: mixedBytes(32, 1), Bits: []byte{8}, Tags: [][]byte{mixedBytes(32, 2)}})}
	// Here a shifted byte leaves the header whole: all bytes of the hashes are 1.
	same := headOver(impl.Qc{View: 1, Block: filled(32, 1), Bits: []byte{1}, Tags: [][]byte{filled(32, 1)}})
	same.Root = same.Parent
	for _, h := range append(list, same) {
		headCodec.checkShiftedBytes(t, limitsFor(4), h, 0, 1, 2, 15, 16, 127, 128, 255)
	}
}

// Short strings stand for the numbers before Parent, for those of the
// certificate, and for its bitmap.
func TestHeadInputs(t *testing.T) {
	hash, tags := filled(32, 1), slices.Concat(tagsFor(3)...)
	ahead := slices.Concat([]byte{5, 2, 1}, hash, hash)
	behind := slices.Concat([]byte{4, 1}, hash, []byte{7}, tags)
	eachInput([]byte{0, 1, 2, 3, 4, 127, 128, 129, 255}, 4, func(b []byte) {
		l := limitsFor(4)
		for _, rest := range [][]byte{nil, filled(20, 0), slices.Concat(hash, hash, behind), slices.Concat(hash, hash, behind[:130])} {
			headCodec.checkAccepted(t, l, slices.Concat(b, rest), 0)
		}
		for _, rest := range [][]byte{nil, filled(20, 0), behind[2:], behind[2:34]} {
			headCodec.checkAccepted(t, l, slices.Concat(ahead, b, rest), 0)
		}
		for _, n := range []int{2, 3, 8, 9, 10} {
			headCodec.checkAccepted(t, limitsFor(n), slices.Concat(ahead, behind[:34], b, tags), 0)
		}
		headCodec.checkAccepted(t, l, slices.Concat([]byte{5, 6, 7}, ahead, b, behind[2:], b), 3)
	})
}
