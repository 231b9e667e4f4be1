package tests

import (
	"bytes"
	"fmt"
	"slices"
	"sync"
	"testing"

	"loop.example/g00790/impl"
)

// Chapter 1 for chapter 12: arguments and their spare capacity stay unchanged,
// results are new memory, and no function panics.

// oddVotes are votes that are not valid.
func oddVotes() []impl.Vote {
	list := []impl.Vote{{}, {Block: []byte{}, Tag: []byte{}}}
	for _, v := range otherVotes(oneVote()) {
		if !writtenVoteOk(limitsFor(4), v) {
			list = append(list, v)
		}
	}
	for _, x := range notHashes() {
		for _, in := range voteHashes {
			v := oneVote()
			*in(&v) = x
			list = append(list, v)
		}
	}
	return list
}

// pureInputs are encodings of votes, and bytes that are none.
func pureInputs() [][]byte {
	list := [][]byte{nil, {}, {128}, {128, 0}, {1, 2}, filled(66, 0), filled(67, 0), filled(80, 255)}
	for _, v := range []impl.Vote{oneVote(), {View: impl.MaxNum, Height: impl.MaxNum, Block: filled(32, 255), Tag: filled(32, 255)}} {
		b := rawVote(v)
		list = append(list, b, b[:len(b)-1], b[:len(b)-32], b[:len(b)-40], append(bytes.Clone(b), b...), append([]byte{0}, b...))
	}
	return list
}

func TestPutVotePure(t *testing.T) {
	for _, v := range append(oddVotes(), oneVote(), impl.Vote{Block: goHash(1), Tag: goHash(1)}) {
		for _, l := range []impl.Limits{limitsFor(4), limitsFor(10), {}} {
			for _, b := range [][]byte{nil, {}, {1}, filled(100, 7)} {
				checkPure(t, fmt.Sprintf("PutVote(%v, %v, %+v)", l, b, v), func(a [][]byte) []byte {
					out, _ := impl.PutVote(l, a[0], impl.Vote{View: v.View, Height: v.Height, Block: a[1], Who: v.Who, Tag: a[2]})
					return out
				}, b, v.Block, v.Tag)
			}
		}
	}
}

// The slice of PutVote is its own: also where b has room for all of it, and
// where Block and Tag lie in b, behind b, or in one another.
func TestPutVoteOfSharedMemory(t *testing.T) {
	all := mixedBytes(200, 3)
	before := bytes.Clone(all)
	hash := all[40:72]
	for _, v := range []impl.Vote{
		{View: 300, Height: 2, Block: hash, Who: 3, Tag: hash},
		{View: 300, Height: 2, Block: all[0:32], Who: 3, Tag: all[5:37]},
		{View: 300, Height: 2, Block: all[5:37], Who: 3, Tag: all[0:32]},
		{View: 300, Height: 2, Block: all[2:34], Who: 3, Tag: all[35:67]},
		{View: 300, Height: 2, Block: all[168:], Who: 3, Tag: all[100:132]},
	} {
		for _, size := range []int{0, 1, 10, 40, 72, 199, 200} {
			want := slices.Concat(before[:size], rawVote(cloneVote(v)))
			got, ok := impl.PutVote(limitsFor(4), all[:size], v)
			checkPut(t, "PutVote of shared memory", got, ok, want)
			checkHash(t, "the memory", all, before)
			overwriteBytes(got)
			checkHash(t, "the memory, the result overwritten", all, before)
			got, _ = impl.PutVote(limitsFor(4), all[:size], v)
			overwriteBytes(all)
			checkHash(t, "PutVote, the memory overwritten", got, want)
			copy(all, before)
		}
	}
}

// Two votes appended to one slice do not meet in its spare capacity.
func TestPutVoteTwice(t *testing.T) {
	b := make([]byte, 3, 300)
	first, second := oneVote(), oneVote()
	second.View, second.Who = 301, 1
	x, _ := impl.PutVote(limitsFor(4), b, first)
	y, _ := impl.PutVote(limitsFor(4), b, second)
	z, _ := impl.PutVote(limitsFor(4), x, second)
	checkHash(t, "the first vote", x, slices.Concat(b, rawVote(first)))
	checkHash(t, "the second vote", y, slices.Concat(b, rawVote(second)))
	checkHash(t, "both votes", z, slices.Concat(b, rawVote(first), rawVote(second)))
	overwriteBytes(x)
	checkHash(t, "the second vote, the first overwritten", y, slices.Concat(b, rawVote(second)))
	checkHash(t, "both votes, the first overwritten", z, slices.Concat(b, rawVote(first), rawVote(second)))
}

func TestGetVotePure(t *testing.T) {
	for _, b := range pureInputs() {
		for _, l := range []impl.Limits{limitsFor(4), limitsFor(1), {}} {
			for _, at := range []int{-1, 0, 1, len(b) / 2, len(b), len(b) + 1} {
				what := fmt.Sprintf("GetVote(%v, %v, %d)", l, b, at)
				for _, in := range voteHashes {
					checkPure(t, what, func(a [][]byte) []byte {
						v, _, _ := impl.GetVote(l, a[0], at)
						return *in(&v)
					}, b)
				}
				given := roomy(b)
				v, _, _ := impl.GetVote(l, given, at)
				want := cloneVote(v)
				overwriteBytes(given)
				checkVoteSame(t, v, want, true)
				checkElementsApart(t, what, [][]byte{v.Block, v.Tag})
			}
		}
	}
}

func TestVoteQuestionsPure(t *testing.T) {
	for _, v := range append(oddVotes(), oneVote()) {
		for _, l := range []impl.Limits{limitsFor(4), {}} {
			checkPure(t, fmt.Sprintf("the questions about %+v", v), func(a [][]byte) []byte {
				x := impl.Vote{View: v.View, Height: v.Height, Block: a[0], Who: v.Who, Tag: a[1]}
				return append(oneByte(impl.VoteOk(l, x)), oneByte(impl.VoteSame(x, oneVote()))...)
			}, v.Block, v.Tag)
		}
	}
}

// A call does not keep what it returned: the next one has memory of its own.
func TestVoteResultsAreNew(t *testing.T) {
	b := rawVote(oneVote())
	first, _, _ := impl.GetVote(limitsFor(4), b, 0)
	second, _, _ := impl.GetVote(limitsFor(4), b, 0)
	overwriteBytes(first.Block)
	overwriteBytes(first.Tag)
	checkVoteSame(t, second, oneVote(), true)
	checkVoteAt(t, limitsFor(4), b, 0, oneVote(), len(b), impl.ErOk)
}

// Every function takes all ints, whatever the other arguments are.
func TestVotesOfExtremes(t *testing.T) {
	hashes := [][]byte{nil, goHash(1), filled(33, 1)}
	for i, n := range extremes {
		for j, m := range extremes {
			v := impl.Vote{View: n, Height: m, Block: hashes[i%3], Who: n, Tag: hashes[j%3]}
			for _, who := range extremes {
				v.Who = who
				for _, l := range []impl.Limits{limitsFor(10), {N: n, Tx: m, Txs: n, Frame: m, Heads: n}, limitsFor(m)} {
					checkVoteOk(t, l, nil, v, writtenVoteOk(l, v))
					checkVoteSame(t, v, cloneVote(v), true)
				}
			}
		}
		for _, b := range pureInputs() {
			for _, l := range append(wrongLimits(), limitsFor(10), limitsFor(n)) {
				checkVoteInput(t, l, b, n)
				checkVoteInput(t, l, b, len(b)+n)
			}
		}
	}
}

// A call in between, also a refused one, leaves nothing behind.
func TestVotesKeepNoState(t *testing.T) {
	l, v := limitsFor(4), oneVote()
	for i, b := range pureInputs() {
		impl.GetVote(limitsFor(i), b, 0)
		impl.GetVote(impl.Limits{}, b, 1)
		impl.PutVote(limitsFor(i), b, impl.Vote{Block: goHash(byte(i)), Tag: goHash(0)})
		impl.PutVote(l, b, impl.Vote{})
		impl.VoteOk(impl.Limits{}, v)
		impl.VoteSame(v, impl.Vote{})
		checkVoteOk(t, l, nil, v, true)
		checkVoteAt(t, l, rawVote(v), 0, v, len(rawVote(v)), impl.ErOk)
		checkNoVoteAt(t, l, rawVote(v)[:50], 0, impl.ErShort)
	}
}

func TestVotesAtTheSameTime(t *testing.T) {
	var group sync.WaitGroup
	all := make([]byte, 3, 200)
	for n := 1; n <= impl.MaxSigners; n++ {
		group.Go(func() {
			for _, v := range someVotes(n) {
				checkVoteOk(t, limitsFor(n), all, v, true)
				checkVoteAt(t, limitsFor(n), rawVote(v), 0, v, len(rawVote(v)), impl.ErOk)
			}
		})
	}
	group.Wait()
}
