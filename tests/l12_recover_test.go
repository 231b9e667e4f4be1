package tests

import (
	"fmt"
	"slices"
	"testing"

	"loop.example/g00790/impl"
)

// P4 for chapter 13: a certificate is recovered from its encoding, and every
// input is the encoding of one valid certificate or has its first error.

func TestQcsRecovered(t *testing.T) {
	for n := 1; n <= impl.MaxSigners; n++ {
		for _, q := range someQcs(n) {
			qcCodec.checkRecovered(t, limitsFor(n), q)
		}
	}
	for _, l := range someLimits {
		for _, set := range []int{0, 1, 1 << (l.N - 1), 1<<l.N - 1} {
			qcCodec.checkRecovered(t, l, qcOfSet(set, l.N))
		}
	}
}

func TestNumbersOfQcsRecovered(t *testing.T) {
	for _, n := range someNumbers() {
		q := oneQc()
		q.View = n
		qcCodec.checkRecovered(t, limitsFor(4), q)
		q.View, q.Height = q.Height, n
		qcCodec.checkRecovered(t, limitsFor(4), q)
	}
}

func TestRowOfQcsRecovered(t *testing.T) {
	for _, n := range []int{1, 4, 10} {
		qcCodec.checkRow(t, limitsFor(n), someQcs(n))
	}
}

func TestEncodingsOfQcsDiffer(t *testing.T) {
	for _, q := range []impl.Qc{qcWith(0, 0), qcWith(5, 2), qcWith(255, 3), {View: 128, Height: 128, Block: filled(32, 0), Bits: []byte{1, 0}, Tags: [][]byte{filled(32, 1)}}} {
		qcCodec.checkOtherEncodings(t, limitsFor(10), q, someQcs(10))
	}
}

func TestCutQcs(t *testing.T) {
	for n := 1; n <= impl.MaxSigners; n++ {
		for _, q := range someQcs(n) {
			qcCodec.checkCut(t, limitsFor(n), q)
		}
	}
}

func TestWrongNumbersOfQcs(t *testing.T) {
	l := limitsFor(4)
	eachWrongNumber(partsOfRawQc(qcWith(9)), []int{0, 1}, func(b []byte, code int) {
		t.Helper()
		qcCodec.checkNoneAt(t, l, b, 0, code)
	})
}

// paddedBits are byte strings as long as a bitmap of n signers, with a bit set at n or behind it.
func paddedBits(n int) [][]byte {
	var list [][]byte
	size := (n + 7) / 8
	for i := n; i < 8*size; i++ {
		for _, set := range []int{0, 1, 1<<n - 1} {
			list = append(list, bitmapOf(set|1<<i, 8*size))
		}
	}
	if n%8 > 0 {
		list = append(list, filled(size, 255))
	}
	return list
}

// A bit without a signer is found before any tag is read: as many as the set
// bits stand behind, or fewer, or none.
func TestWrongBitsOfQcs(t *testing.T) {
	for n := 1; n <= impl.MaxSigners; n++ {
		l := limitsFor(n)
		for _, bits := range paddedBits(n) {
			q := qcWith(bits...)
			b := rawQc(q)
			tags := 32 * len(q.Tags)
			for end := range len(b) + 1 {
				want := impl.ErPad
				if end < len(b)-tags {
					want = impl.ErShort
				}
				qcCodec.checkNoneAt(t, l, b[:end], 0, want)
			}
			qcCodec.checkNoneAt(t, l, append(b, 1, 2, 3), 0, impl.ErPad)
			qcCodec.checkNoneAt(t, l, append([]byte{128, 0}, b...), 2, impl.ErPad)
		}
	}
}

// Two parts are wrong, and the first one has its code.
func TestFirstErrorOfQcs(t *testing.T) {
	l, q := limitsFor(4), qcWith(5)
	wrong, padded := []byte{128, 0}, []byte{16}
	view, height, first, second := varint(q.View), varint(q.Height), q.Tags[0], q.Tags[1]
	qcCodec.checkCodes(t, l, []partsCase{
		{[][]byte{wrong, wrong, q.Block, padded, first}, impl.ErVar},
		{[][]byte{wrong, height, q.Block, padded, first}, impl.ErVar},
		{[][]byte{wrong}, impl.ErVar},
		{[][]byte{view, wrong, q.Block, padded, first}, impl.ErVar},
		{[][]byte{view, wrong, q.Block[:31]}, impl.ErVar},
		{[][]byte{view, wrong}, impl.ErVar},
		{[][]byte{view, height, q.Block[:31]}, impl.ErShort},
		{[][]byte{view, height, q.Block}, impl.ErShort},
		{[][]byte{view, height, q.Block, padded}, impl.ErPad},
		{[][]byte{view, height, q.Block, padded, first[:31]}, impl.ErPad},
		{[][]byte{view, height, q.Block, padded, first, second}, impl.ErPad},
		{[][]byte{view, height, q.Block, {21}, first, second}, impl.ErPad},
		{[][]byte{view, height, q.Block, {5}}, impl.ErShort},
		{[][]byte{view, height, q.Block, {5}, first[:31]}, impl.ErShort},
		{[][]byte{view, height, q.Block, {5}, first}, impl.ErShort},
		{[][]byte{view, height, q.Block, {5}, first, second[:31]}, impl.ErShort},
		{[][]byte{view, height, q.Block, {7}, first, second}, impl.ErShort},
		{[][]byte{view, height, q.Block, {5}, first, second}, impl.ErOk},
		{[][]byte{view, height, q.Block, {4}, first, second}, impl.ErOk},
		{[][]byte{view, height, q.Block, {0}, first, second}, impl.ErOk},
	})
}

// A certificate of other validators is read with the bitmap that the limits ask for.
func TestQcOfOtherLimits(t *testing.T) {
	for from := 1; from <= impl.MaxSigners; from++ {
		for to := 1; to <= impl.MaxSigners; to++ {
			for _, set := range []int{0, 1, 1 << (from - 1), 1<<from - 1} {
				q := qcOfSet(set, from)
				b, ok := impl.PutQc(limitsFor(from), nil, q)
				checkPut(t, fmt.Sprintf("a certificate of %d", from), b, ok, rawQc(q))
				qcCodec.checkAccepted(t, limitsFor(to), b, 0)
				sameSize := (from > 8) == (to > 8)
				switch {
				case sameSize && set < 1<<to:
					qcCodec.checkAt(t, limitsFor(to), b, 0, q, len(b), impl.ErOk)
				case sameSize:
					qcCodec.checkNoneAt(t, limitsFor(to), b, 0, impl.ErPad)
				}
			}
		}
	}
}

func TestChangedBytesOfQcs(t *testing.T) {
	for _, q := range []impl.Qc{qcWith(0), oneQc(), {View: 5, Height: 1 << 40, Block: filled(32, 255), Bits: []byte{1}, Tags: [][]byte{filled(32, 128)}}} {
		qcCodec.checkChangedBytes(t, limitsFor(4), q)
	}
}

func TestShiftedBytesOfQcs(t *testing.T) {
	for _, q := range []impl.Qc{qcWith(6), {View: 1 << 50, Height: 200, Block: mixedBytes(32, 1), Bits: []byte{8}, Tags: [][]byte{mixedBytes(32, 2)}}} {
		qcCodec.checkShiftedBytes(t, limitsFor(4), q, 0, 1, 15, 16, 127, 128, 255)
	}
}

// Short strings stand for the numbers before Block, and for the bitmap behind it.
func TestQcInputs(t *testing.T) {
	block, tags := filled(32, 1), slices.Concat(tagsFor(3)...)
	eachInput([]byte{0, 1, 3, 8, 127, 128, 129, 255}, 4, func(b []byte) {
		for _, rest := range [][]byte{nil, filled(20, 0), slices.Concat(block, []byte{7}, tags), slices.Concat(block, []byte{7}, tags[:95])} {
			qcCodec.checkAccepted(t, limitsFor(4), slices.Concat(b, rest), 0)
		}
		for _, n := range []int{1, 3, 8, 9, 10} {
			qcCodec.checkAccepted(t, limitsFor(n), slices.Concat([]byte{1, 2}, block, b, tags), 0)
			qcCodec.checkAccepted(t, limitsFor(n), slices.Concat([]byte{1, 2}, block, b), 0)
		}
		qcCodec.checkAccepted(t, limitsFor(4), slices.Concat([]byte{5, 6, 7}, b, block, []byte{5}, tags, b), 3)
	})
}
