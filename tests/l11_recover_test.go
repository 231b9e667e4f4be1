package tests

import (
	"bytes"
	"fmt"
	"slices"
	"testing"

	"loop.example/g00790/impl"
)

// P4 for chapter 12: a vote is recovered from its encoding, and every input is
// the encoding of one valid vote or has its first error.

func TestVotesRecovered(t *testing.T) {
	for n := 1; n <= impl.MaxSigners; n++ {
		for _, v := range someVotes(n) {
			voteCodec.checkRecovered(t, limitsFor(n), v)
		}
	}
	for _, l := range someLimits {
		v := oneVote()
		for v.Who = range l.N {
			voteCodec.checkRecovered(t, l, v)
		}
	}
}

func TestNumbersOfVotesRecovered(t *testing.T) {
	for _, n := range someNumbers() {
		v := oneVote()
		v.View = n
		voteCodec.checkRecovered(t, limitsFor(4), v)
		v.View, v.Height = v.Height, n
		voteCodec.checkRecovered(t, limitsFor(4), v)
	}
}

func TestRowOfVotesRecovered(t *testing.T) {
	voteCodec.checkRow(t, limitsFor(10), someVotes(10))
}

func TestEncodingsOfVotesDiffer(t *testing.T) {
	for _, v := range []impl.Vote{oneVote(), {View: 128, Height: 128, Block: filled(32, 0), Tag: filled(32, 1)}} {
		voteCodec.checkOtherEncodings(t, limitsFor(10), v, someVotes(10))
	}
}

func TestCutVotes(t *testing.T) {
	for n := 1; n <= impl.MaxSigners; n++ {
		for _, v := range someVotes(n) {
			voteCodec.checkCut(t, limitsFor(n), v)
		}
	}
}

// wrongVarints are byte strings that no number has as its encoding.
func wrongVarints() [][]byte {
	list := [][]byte{
		{128, 0}, {129, 0}, {255, 0}, {128, 128, 0}, {255, 255, 0}, filled(7, 128, 0), filled(8, 128, 0), filled(8, 255, 0),
		filled(8, 128, 16), filled(8, 255, 16), filled(8, 128, 127), filled(8, 255, 127), filled(9, 128), filled(9, 255), filled(9, 128, 1), filled(9, 255, 1), filled(20, 128, 1),
	}
	for _, n := range notNumbers {
		list = append(list, varint(n))
	}
	return list
}

// eachWrongNumber replaces the number in each of the places by a wrong one or by
// the beginning of one. What stands behind a wrong one is whole, cut anywhere or missing.
func eachWrongNumber(parts [][]byte, places []int, check func(b []byte, code int)) {
	for _, place := range places {
		before, behind := slices.Concat(parts[:place]...), slices.Concat(parts[place+1:]...)
		for _, wrong := range wrongVarints() {
			for end := range len(behind) + 1 {
				check(slices.Concat(before, wrong, behind[:end]), impl.ErVar)
			}
			check(slices.Concat(before, wrong, filled(100, 255)), impl.ErVar)
		}
		for size := 1; size < 9; size++ {
			check(append(bytes.Clone(before), filled(size, 128)...), impl.ErShort)
			check(append(bytes.Clone(before), filled(size, 255)...), impl.ErShort)
		}
	}
}

func TestWrongNumbersOfVotes(t *testing.T) {
	l, v := limitsFor(4), oneVote()
	parts := [][]byte{varint(v.View), varint(v.Height), v.Block, varint(v.Who), v.Tag}
	eachWrongNumber(parts, []int{0, 1, 3}, func(b []byte, code int) {
		t.Helper()
		voteCodec.checkNoneAt(t, l, b, 0, code)
	})
}

// A signer that does not exist is found before its tag is read.
func TestWrongSignersOfVotes(t *testing.T) {
	for n := 1; n <= impl.MaxSigners; n++ {
		l := limitsFor(n)
		for _, who := range []int{n, n + 1, n + 100, 127, 128, 255, 256, 16384, 1<<32 + n - 1, 1 << 56, impl.MaxNum} {
			for _, v := range []impl.Vote{oneVote(), {View: impl.MaxNum, Height: impl.MaxNum, Block: filled(32, 255), Tag: filled(32, 0)}} {
				v.Who = who
				b := rawVote(v)
				for end := len(b) - 32; end <= len(b); end++ {
					voteCodec.checkNoneAt(t, l, b[:end], 0, impl.ErValue)
				}
				for end := range len(b) - 32 {
					voteCodec.checkNoneAt(t, l, b[:end], 0, impl.ErShort)
				}
				voteCodec.checkNoneAt(t, l, append(b, 1, 2, 3), 0, impl.ErValue)
			}
		}
	}
}

// Two parts are wrong, and the first one has its code.
func TestFirstErrorOfVotes(t *testing.T) {
	l, v := limitsFor(4), oneVote()
	wrong, large := []byte{128, 0}, []byte{4}
	view, height, who := varint(v.View), varint(v.Height), varint(v.Who)
	voteCodec.checkCodes(t, l, []partsCase{
		{[][]byte{wrong, wrong, v.Block, wrong, v.Tag}, impl.ErVar},
		{[][]byte{wrong, height, v.Block, large, v.Tag}, impl.ErVar},
		{[][]byte{view, wrong, v.Block, large, v.Tag}, impl.ErVar},
		{[][]byte{view, wrong, v.Block, large}, impl.ErVar},
		{[][]byte{view, wrong, v.Block[:31]}, impl.ErVar},
		{[][]byte{view, height, v.Block[:31]}, impl.ErShort},
		{[][]byte{view, height, v.Block, large, v.Tag[:31]}, impl.ErValue},
		{[][]byte{view, height, v.Block, large}, impl.ErValue},
		{[][]byte{view, height, v.Block, wrong, v.Tag[:31]}, impl.ErVar},
		{[][]byte{view, height, v.Block, who, v.Tag[:31]}, impl.ErShort},
		{[][]byte{view, height, v.Block, who}, impl.ErShort},
		{[][]byte{view, height, v.Block, {132}}, impl.ErShort},
		{[][]byte{view, height, v.Block, {132, 1}}, impl.ErValue},
		{[][]byte{view, height, v.Block, {132, 0}}, impl.ErVar},
	})
}

// A vote of more validators is none of fewer.
func TestVoteOfOtherLimits(t *testing.T) {
	for from := 1; from <= impl.MaxSigners; from++ {
		for to := 1; to <= impl.MaxSigners; to++ {
			v := oneVote()
			for v.Who = range from {
				b, ok := impl.PutVote(limitsFor(from), nil, v)
				checkPut(t, fmt.Sprintf("a vote of %d", from), b, ok, rawVote(v))
				if v.Who < to {
					voteCodec.checkAt(t, limitsFor(to), b, 0, v, len(b), impl.ErOk)
				} else {
					voteCodec.checkNoneAt(t, limitsFor(to), b, 0, impl.ErValue)
				}
			}
		}
	}
}

func TestChangedBytesOfVotes(t *testing.T) {
	for _, v := range []impl.Vote{oneVote(), {View: 5, Height: 1 << 40, Block: filled(32, 255), Tag: filled(32, 128)}, {View: impl.MaxNum, Height: 127, Block: goHash(1), Who: 1, Tag: goHash(2)}} {
		voteCodec.checkChangedBytes(t, limitsFor(4), v)
	}
}

func TestShiftedBytesOfVotes(t *testing.T) {
	for _, v := range []impl.Vote{oneVote(), {View: 1 << 50, Height: 200, Block: mixedBytes(32, 1), Tag: mixedBytes(32, 2)}} {
		voteCodec.checkShiftedBytes(t, limitsFor(4), v, 0, 1, 3, 4, 127, 128, 255)
	}
}

// Short strings stand for the numbers before Block, and for the one behind it.
func TestVoteInputs(t *testing.T) {
	block, tag := filled(32, 1), filled(32, 2)
	eachInput([]byte{0, 1, 3, 4, 127, 128, 129, 255}, 4, func(b []byte) {
		for _, rest := range [][]byte{nil, filled(20, 0), slices.Concat(block, []byte{1}, tag), slices.Concat(block, []byte{1}, tag[:31])} {
			voteCodec.checkAccepted(t, limitsFor(4), slices.Concat(b, rest), 0)
		}
		for _, n := range []int{1, 2, 4, 10} {
			voteCodec.checkAccepted(t, limitsFor(n), slices.Concat([]byte{1, 2}, block, b, tag), 0)
			voteCodec.checkAccepted(t, limitsFor(n), slices.Concat([]byte{1, 2}, block, b), 0)
		}
		voteCodec.checkAccepted(t, limitsFor(4), slices.Concat([]byte{5, 6, 7}, b, block, []byte{3}, tag, b), 3)
	})
}
