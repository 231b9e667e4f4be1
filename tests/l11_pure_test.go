package tests

import (
	"bytes"
	"sync"
	"testing"

	"loop.example/g00790/impl"
)

// Chapter 1 for chapter 12: arguments and their spare capacity stay unchanged,
// results are new memory, and no function panics.

func holdVote(v impl.Vote) held[impl.Vote] {
	given, want := v, cloneVote(v)
	given.Block, given.Tag = roomy(v.Block), roomy(v.Tag)
	return held[impl.Vote]{given, func(t *testing.T, what string) {
		t.Helper()
		checkRoomy(t, what+", Block", given.Block, want.Block)
		checkRoomy(t, what+", Tag", given.Tag, want.Tag)
	}}
}

func partsOfVote(v impl.Vote) [][]byte { return [][]byte{v.Block, v.Tag} }

func overwriteVote(v impl.Vote) {
	overwriteBytes(v.Block)
	overwriteBytes(v.Tag)
}

// oddVotes are votes that are not valid.
func oddVotes() []impl.Vote {
	list := []impl.Vote{{}, {Block: []byte{}, Tag: []byte{}}}
	for _, v := range otherVotes(oneVote()) {
		if !writtenVoteOk(limitsFor(4), v) {
			list = append(list, v)
		}
	}
	for _, x := range notHashes() {
		for _, in := range voteHashes {
			v := oneVote()
			*in(&v) = x
			list = append(list, v)
		}
	}
	return list
}

// pureInputs are encodings of votes, and bytes that are none.
func pureInputs() [][]byte {
	list := [][]byte{nil, {}, {128}, {128, 0}, {1, 2}, filled(66, 0), filled(67, 0), filled(80, 255)}
	for _, v := range []impl.Vote{oneVote(), {View: impl.MaxNum, Height: impl.MaxNum, Block: filled(32, 255), Tag: filled(32, 255)}} {
		b := rawVote(v)
		list = append(list, b, b[:len(b)-1], b[:len(b)-32], b[:len(b)-40], append(bytes.Clone(b), b...), append([]byte{0}, b...))
	}
	return list
}

func TestPutVotePure(t *testing.T) {
	voteCodec.checkPutPure(t, append(oddVotes(), oneVote(), impl.Vote{Block: goHash(1), Tag: goHash(1)}))
}

// The slice of PutVote is its own: also where b has room for all of it, and
// where Block and Tag lie in b, behind b, or in one another.
func TestPutVoteOfSharedMemory(t *testing.T) {
	all := mixedBytes(200, 3)
	hash := all[40:72]
	for _, v := range []impl.Vote{
		{View: 300, Height: 2, Block: hash, Who: 3, Tag: hash},
		{View: 300, Height: 2, Block: all[0:32], Who: 3, Tag: all[5:37]},
		{View: 300, Height: 2, Block: all[5:37], Who: 3, Tag: all[0:32]},
		{View: 300, Height: 2, Block: all[2:34], Who: 3, Tag: all[35:67]},
		{View: 300, Height: 2, Block: all[168:], Who: 3, Tag: all[100:132]},
	} {
		voteCodec.checkPutShared(t, all, []int{0, 1, 10, 40, 72, 199, 200}, v)
	}
}

func TestPutVoteTwice(t *testing.T) {
	second := oneVote()
	second.View, second.Who = 301, 1
	voteCodec.checkPutTwice(t, oneVote(), second)
}

func TestGetVotePure(t *testing.T) { voteCodec.checkGetPure(t, pureInputs()) }

func TestVoteQuestionsPure(t *testing.T) {
	voteCodec.checkQuestionsPure(t, oneVote(), append(oddVotes(), oneVote()))
}

func TestVoteResultsAreNew(t *testing.T) { voteCodec.checkGetNew(t, limitsFor(4), oneVote()) }

// Every function takes all ints, whatever the other arguments are.
func TestVotesOfExtremes(t *testing.T) {
	hashes := [][]byte{nil, goHash(1), filled(33, 1)}
	for i, n := range extremes {
		for j, m := range extremes {
			v := impl.Vote{View: n, Height: m, Block: hashes[i%3], Who: n, Tag: hashes[j%3]}
			for _, who := range extremes {
				v.Who = who
				for _, l := range []impl.Limits{limitsFor(10), {N: n, Tx: m, Txs: n, Frame: m, Heads: n}, limitsFor(m)} {
					voteCodec.checkOk(t, l, nil, v, writtenVoteOk(l, v))
					voteCodec.checkSame(t, v, cloneVote(v), true)
				}
			}
		}
	}
	voteCodec.checkExtremes(t, pureInputs())
}

// A call in between, also a refused one, leaves nothing behind.
func TestVotesKeepNoState(t *testing.T) {
	l, v := limitsFor(4), oneVote()
	for i, b := range pureInputs() {
		impl.GetVote(limitsFor(i), b, 0)
		impl.GetVote(impl.Limits{}, b, 1)
		impl.PutVote(limitsFor(i), b, impl.Vote{Block: goHash(byte(i)), Tag: goHash(0)})
		impl.PutVote(l, b, impl.Vote{})
		impl.VoteOk(impl.Limits{}, v)
		impl.VoteSame(v, impl.Vote{})
		voteCodec.checkOk(t, l, nil, v, true)
		voteCodec.checkAt(t, l, rawVote(v), 0, v, len(rawVote(v)), impl.ErOk)
		voteCodec.checkNoneAt(t, l, rawVote(v)[:50], 0, impl.ErShort)
	}
}

func TestVotesAtTheSameTime(t *testing.T) {
	var group sync.WaitGroup
	all := make([]byte, 3, 200)
	for n := 1; n <= impl.MaxSigners; n++ {
		group.Go(func() {
			for _, v := range someVotes(n) {
				voteCodec.checkOk(t, limitsFor(n), all, v, true)
				voteCodec.checkAt(t, limitsFor(n), rawVote(v), 0, v, len(rawVote(v)), impl.ErOk)
			}
		})
	}
	group.Wait()
}
