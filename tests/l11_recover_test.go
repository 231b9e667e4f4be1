package tests

import (
	"bytes"
	"fmt"
	"slices"
	"testing"

	"loop.example/g00790/impl"
)

// P4 for chapter 12: a vote is recovered from its encoding, and every input is
// the encoding of one valid vote or has its first error.

// surroundings stand before an object and behind it.
var surroundings = [][]byte{nil, {0}, {128}, {255, 0, 129}, filled(40, 9), filled(300, 128)}

// checkVoteRecovered writes v behind each surrounding and reads it in front of each.
func checkVoteRecovered(t *testing.T, l impl.Limits, v impl.Vote) {
	t.Helper()
	for _, ahead := range surroundings {
		b, ok := impl.PutVote(l, ahead, v)
		if !ok || !bytes.HasPrefix(b, ahead) {
			t.Errorf("PutVote(%+v, %v, %+v) = %v, %v", l, ahead, v, b, ok)
		}
		for _, behind := range surroundings {
			checkVoteAt(t, l, slices.Concat(b, behind), len(ahead), v, len(b), impl.ErOk)
		}
	}
}

// checkAccepted reports an input that is accepted, but is not what PutVote writes
// of the vote, or one whose first error is another.
func checkAccepted(t *testing.T, l impl.Limits, b []byte, at int) {
	t.Helper()
	checkVoteInput(t, l, b, at)
	v, next, er := impl.GetVote(l, b, at)
	if er != impl.ErOk {
		return
	}
	only, ok := impl.PutVote(l, nil, v)
	if !ok || !impl.VoteOk(l, v) || !bytes.Equal(only, b[at:next]) {
		t.Errorf("GetVote(%+v, %v, %d) is %+v, which is encoded as %v, %v", l, b, at, v, only, ok)
	}
}

func TestVotesRecovered(t *testing.T) {
	for n := 1; n <= impl.MaxSigners; n++ {
		for _, v := range someVotes(n) {
			checkVoteRecovered(t, limitsFor(n), v)
		}
	}
	for _, l := range someLimits {
		v := oneVote()
		for v.Who = range l.N {
			checkVoteRecovered(t, l, v)
		}
	}
}

func TestNumbersOfVotesRecovered(t *testing.T) {
	for _, n := range someNumbers() {
		v := oneVote()
		v.View = n
		checkVoteRecovered(t, limitsFor(4), v)
		v.View, v.Height = v.Height, n
		checkVoteRecovered(t, limitsFor(4), v)
	}
}

// Votes stand one behind the other, each where the one before it ends.
func TestRowOfVotesRecovered(t *testing.T) {
	l, list := limitsFor(10), someVotes(10)
	var b []byte
	for _, v := range list {
		b, _ = impl.PutVote(l, b, v)
	}
	at := 0
	for _, v := range list {
		checkVoteAt(t, l, b, at, v, at+len(rawVote(v)), impl.ErOk)
		at += len(rawVote(v))
	}
	checkNoVoteAt(t, l, b, at, impl.ErShort)
}

// No two votes have one encoding, and none begins with that of another.
func TestEncodingsOfVotesDiffer(t *testing.T) {
	l := limitsFor(10)
	for _, v := range []impl.Vote{oneVote(), {View: 128, Height: 128, Block: filled(32, 0), Tag: filled(32, 1)}} {
		b, _ := impl.PutVote(l, nil, v)
		for _, other := range append(otherVotes(v), someVotes(10)...) {
			x, ok := impl.PutVote(l, nil, other)
			if ok && !impl.VoteSame(v, other) && (bytes.HasPrefix(b, x) || bytes.HasPrefix(x, b)) {
				t.Errorf("%+v and %+v have the encodings %v and %v", v, other, b, x)
			}
		}
	}
}

// A proper prefix of an encoding could still become a vote, so it is too short.
func TestCutVotes(t *testing.T) {
	for n := 1; n <= impl.MaxSigners; n++ {
		for _, v := range someVotes(n) {
			b := rawVote(v)
			for end := range b {
				checkNoVoteAt(t, limitsFor(n), b[:end], 0, impl.ErShort)
			}
		}
	}
	b := slices.Concat(filled(9, 1), rawVote(oneVote()))
	for end := 9; end < len(b); end++ {
		checkNoVoteAt(t, limitsFor(4), b[:end], 9, impl.ErShort)
	}
}

// wrongVarints are byte strings that no number has as its encoding.
func wrongVarints() [][]byte {
	list := [][]byte{
		{128, 0}, {129, 0}, {255, 0}, {128, 128, 0}, {255, 255, 0}, filled(7, 128, 0), filled(8, 128, 0), filled(8, 255, 0),
		filled(8, 128, 16), filled(8, 255, 16), filled(8, 128, 127), filled(8, 255, 127), filled(9, 128), filled(9, 255), filled(9, 128, 1), filled(9, 255, 1), filled(20, 128, 1),
	}
	for _, n := range notNumbers {
		list = append(list, varint(n))
	}
	return list
}

// eachWrongNumber replaces the number in each of the places by a wrong one or by
// the beginning of one. What stands behind a wrong one is whole, cut anywhere or missing.
func eachWrongNumber(parts [][]byte, places []int, check func(b []byte, code int)) {
	for _, place := range places {
		before, behind := slices.Concat(parts[:place]...), slices.Concat(parts[place+1:]...)
		for _, wrong := range wrongVarints() {
			for end := range len(behind) + 1 {
				check(slices.Concat(before, wrong, behind[:end]), impl.ErVar)
			}
			check(slices.Concat(before, wrong, filled(100, 255)), impl.ErVar)
		}
		for size := 1; size < 9; size++ {
			check(append(bytes.Clone(before), filled(size, 128)...), impl.ErShort)
			check(append(bytes.Clone(before), filled(size, 255)...), impl.ErShort)
		}
	}
}

func TestWrongNumbersOfVotes(t *testing.T) {
	l, v := limitsFor(4), oneVote()
	parts := [][]byte{varint(v.View), varint(v.Height), v.Block, varint(v.Who), v.Tag}
	eachWrongNumber(parts, []int{0, 1, 3}, func(b []byte, code int) {
		t.Helper()
		checkNoVoteAt(t, l, b, 0, code)
	})
}

// A signer that does not exist is found before its tag is read.
func TestWrongSignersOfVotes(t *testing.T) {
	for n := 1; n <= impl.MaxSigners; n++ {
		l := limitsFor(n)
		for _, who := range []int{n, n + 1, n + 100, 127, 128, 255, 256, 16384, 1<<32 + n - 1, 1 << 56, impl.MaxNum} {
			for _, v := range []impl.Vote{oneVote(), {View: impl.MaxNum, Height: impl.MaxNum, Block: filled(32, 255), Tag: filled(32, 0)}} {
				v.Who = who
				b := rawVote(v)
				for end := len(b) - 32; end <= len(b); end++ {
					checkNoVoteAt(t, l, b[:end], 0, impl.ErValue)
				}
				for end := range len(b) - 32 {
					checkNoVoteAt(t, l, b[:end], 0, impl.ErShort)
				}
				checkNoVoteAt(t, l, append(b, 1, 2, 3), 0, impl.ErValue)
			}
		}
	}
}

// Two parts are wrong, and the first one has its code.
func TestFirstErrorOfVotes(t *testing.T) {
	l, v := limitsFor(4), oneVote()
	wrong, large := []byte{128, 0}, []byte{4}
	view, height, who := varint(v.View), varint(v.Height), varint(v.Who)
	cases := []struct {
		parts [][]byte
		code  int
	}{
		{[][]byte{wrong, wrong, v.Block, wrong, v.Tag}, impl.ErVar},
		{[][]byte{wrong, height, v.Block, large, v.Tag}, impl.ErVar},
		{[][]byte{view, wrong, v.Block, large, v.Tag}, impl.ErVar},
		{[][]byte{view, wrong, v.Block, large}, impl.ErVar},
		{[][]byte{view, wrong, v.Block[:31]}, impl.ErVar},
		{[][]byte{view, height, v.Block[:31]}, impl.ErShort},
		{[][]byte{view, height, v.Block, large, v.Tag[:31]}, impl.ErValue},
		{[][]byte{view, height, v.Block, large}, impl.ErValue},
		{[][]byte{view, height, v.Block, wrong, v.Tag[:31]}, impl.ErVar},
		{[][]byte{view, height, v.Block, who, v.Tag[:31]}, impl.ErShort},
		{[][]byte{view, height, v.Block, who}, impl.ErShort},
		{[][]byte{view, height, v.Block, {132}}, impl.ErShort},
		{[][]byte{view, height, v.Block, {132, 1}}, impl.ErValue},
		{[][]byte{view, height, v.Block, {132, 0}}, impl.ErVar},
	}
	for i, c := range cases {
		b := slices.Concat(c.parts...)
		if _, _, er := impl.GetVote(l, b, 0); er != c.code {
			t.Errorf("case %d: the code is %d instead of %d", i, er, c.code)
		}
		checkNoVoteAt(t, l, b, 0, c.code)
	}
}

// A vote of more validators is none of fewer.
func TestVoteOfOtherLimits(t *testing.T) {
	for from := 1; from <= impl.MaxSigners; from++ {
		for to := 1; to <= impl.MaxSigners; to++ {
			v := oneVote()
			for v.Who = range from {
				b, ok := impl.PutVote(limitsFor(from), nil, v)
				checkPut(t, fmt.Sprintf("a vote of %d", from), b, ok, rawVote(v))
				if v.Who < to {
					checkVoteAt(t, limitsFor(to), b, 0, v, len(b), impl.ErOk)
				} else {
					checkNoVoteAt(t, limitsFor(to), b, 0, impl.ErValue)
				}
			}
		}
	}
}

// Every byte takes all its values; what is accepted then is another vote.
func TestChangedBytesOfVotes(t *testing.T) {
	for _, v := range []impl.Vote{oneVote(), {View: 5, Height: 1 << 40, Block: filled(32, 255), Tag: filled(32, 128)}, {View: impl.MaxNum, Height: 127, Block: goHash(1), Who: 1, Tag: goHash(2)}} {
		whole := rawVote(v)
		for i := range whole {
			for c := range 256 {
				b := bytes.Clone(whole)
				b[i] = byte(c)
				checkAccepted(t, limitsFor(4), b, 0)
				got, _, er := impl.GetVote(limitsFor(4), b, 0)
				if er == impl.ErOk && impl.VoteSame(got, v) != (b[i] == whole[i]) {
					t.Errorf("byte %d of %v replaced by %d: %+v", i, whole, c, got)
				}
			}
		}
	}
}

// A byte is missing, or one more stands somewhere.
func TestShiftedBytesOfVotes(t *testing.T) {
	for _, v := range []impl.Vote{oneVote(), {View: 1 << 50, Height: 200, Block: mixedBytes(32, 1), Tag: mixedBytes(32, 2)}} {
		whole := rawVote(v)
		for i := range len(whole) + 1 {
			for at := range len(whole) + 1 {
				checkAccepted(t, limitsFor(4), append(bytes.Clone(whole[:i]), whole[min(i+1, len(whole)):]...), at)
			}
			for _, c := range []byte{0, 1, 3, 4, 127, 128, 255} {
				checkAccepted(t, limitsFor(4), slices.Concat(whole[:i], []byte{c}, whole[i:]), 0)
				checkAccepted(t, limitsFor(4), slices.Concat(whole[:i], []byte{c}, whole[i:], []byte{c}), 1)
			}
		}
	}
}

// Short strings stand for the numbers before Block, and for the one behind it.
func TestVoteInputs(t *testing.T) {
	block, tag := filled(32, 1), filled(32, 2)
	eachInput([]byte{0, 1, 3, 4, 127, 128, 129, 255}, 4, func(b []byte) {
		for _, rest := range [][]byte{nil, filled(20, 0), slices.Concat(block, []byte{1}, tag), slices.Concat(block, []byte{1}, tag[:31])} {
			checkAccepted(t, limitsFor(4), slices.Concat(b, rest), 0)
		}
		for _, n := range []int{1, 2, 4, 10} {
			checkAccepted(t, limitsFor(n), slices.Concat([]byte{1, 2}, block, b, tag), 0)
			checkAccepted(t, limitsFor(n), slices.Concat([]byte{1, 2}, block, b), 0)
		}
		checkAccepted(t, limitsFor(4), slices.Concat([]byte{5, 6, 7}, b, block, []byte{3}, tag, b), 3)
	})
}
