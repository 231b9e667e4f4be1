package tests

import (
	"bytes"
	"fmt"
	"slices"
	"sync"
	"testing"

	"loop.example/g00790/impl"
)

// Chapter 1 for chapter 13: arguments and their spare capacity stay unchanged
// (b, Block, Bits, the list of tags and every tag, the list of votes and the
// Block and the Tag of each), results are new memory, and no function panics.

func holdQc(q impl.Qc) held[impl.Qc] {
	given, want, tags := q, cloneQc(q), holdList(q.Tags)
	given.Block, given.Bits, given.Tags = roomy(q.Block), roomy(q.Bits), tags.given
	return held[impl.Qc]{given, func(t *testing.T, what string) {
		t.Helper()
		checkRoomy(t, what+", Block", given.Block, want.Block)
		checkRoomy(t, what+", Bits", given.Bits, want.Bits)
		tags.check(t, what+", Tags")
	}}
}

// overwriteQc changes everything that belongs to a certificate.
func overwriteQc(q impl.Qc) {
	overwriteBytes(q.Block)
	overwriteBytes(q.Bits)
	overwriteList(q.Tags)
}

// spareVote stands in the capacity behind a list of votes.
func spareVote() impl.Vote {
	return impl.Vote{View: -spareByte, Height: -spareByte, Block: []byte{spareByte}, Who: -spareByte, Tag: []byte{spareByte}}
}

// overwriteVotes changes a list of votes, their parts, and the capacity behind all.
func overwriteVotes(list []impl.Vote) {
	voteCodec.ruinAll(list, impl.Vote{View: scribble, Height: scribble, Block: []byte{scribble}, Who: scribble, Tag: []byte{scribble}})
}

// partsOfQc are all byte strings of a certificate.
func partsOfQc(q impl.Qc) [][]byte { return append([][]byte{q.Block, q.Bits}, q.Tags...) }

// oddQcs are certificates that are not valid for four validators, with as many
// tags as set bits or not.
func oddQcs() []impl.Qc {
	list := []impl.Qc{{}, {Block: []byte{}, Bits: []byte{}, Tags: [][]byte{}}, qcWith(255), qcWith(1, 2), qcWith(filled(20, 170)...), {Bits: []byte{7}, Tags: [][]byte{nil, {}, {1}}}}
	for _, q := range otherQcs(oneQc()) {
		if !writtenQcOk(limitsFor(4), q) {
			list = append(list, q)
		}
	}
	return list
}

// pureQcInputs are encodings of certificates, and bytes that are none.
func pureQcInputs() [][]byte {
	list := [][]byte{nil, {}, {128}, {128, 0}, {1, 2}, filled(34, 0), filled(35, 0), filled(66, 1), filled(67, 1), filled(80, 255), rawQc(qcWith(16)), rawQc(qcWith(255))}
	for _, q := range []impl.Qc{oneQc(), qcWith(0), {View: impl.MaxNum, Height: impl.MaxNum, Block: filled(32, 255), Bits: []byte{1}, Tags: [][]byte{filled(32, 255)}}} {
		b := rawQc(q)
		list = append(list, b, b[:len(b)-1], b[:len(b)-32], append(bytes.Clone(b), b...), append([]byte{0}, b...))
	}
	return list
}

func TestPutQcPure(t *testing.T) {
	qcCodec.checkPutPure(t, append(oddQcs(), oneQc(), qcWith(0), qcWith(15), impl.Qc{Block: goHash(1), Bits: []byte{0}}))
}

// The slice of PutQc is its own: also where b has room for all of it, and where
// Block, Bits and the tags lie in b, behind b, or in one another.
func TestPutQcOfSharedMemory(t *testing.T) {
	all := mixedBytes(300, 3)
	all[40], all[72], all[104] = 3, 3, 3
	hash := all[40:72]
	for _, q := range []impl.Qc{
		{View: 300, Height: 2, Block: hash, Bits: hash[:1], Tags: [][]byte{hash, hash}},
		{View: 300, Height: 2, Block: all[0:32], Bits: all[72:73], Tags: [][]byte{all[5:37], all[0:32]}},
		{View: 300, Height: 2, Block: all[8:40], Bits: all[40:41], Tags: [][]byte{all[41:73], all[73:105]}},
		{View: 300, Height: 2, Block: all[268:], Bits: all[104:105], Tags: [][]byte{all[100:132], all[105:137]}},
	} {
		qcCodec.checkPutShared(t, all, []int{0, 1, 10, 40, 72, 299, 300}, q)
	}
}

func TestPutQcTwice(t *testing.T) {
	second := qcWith(10)
	second.View = 301
	qcCodec.checkPutTwice(t, oneQc(), second)
}

func TestGetQcPure(t *testing.T) { qcCodec.checkGetPure(t, pureQcInputs()) }

// What is appended to the tags of a certificate does not reach a copy of it.
func TestTagsAppendedToCopies(t *testing.T) {
	for _, q := range []impl.Qc{oneQc(), qcWith(0), qcWith(15)} {
		read, _, _ := impl.GetQc(limitsFor(4), rawQc(q), 0)
		first, second := append(read.Tags, goHash(1)), append(read.Tags, goHash(2))
		if !sameList(first, append(slices.Clone(q.Tags), goHash(1))) || !sameList(second, append(slices.Clone(q.Tags), goHash(2))) {
			t.Errorf("the tags of %+v with one more are %v and %v", q, first, second)
		}
	}
}

func TestQcQuestionsPure(t *testing.T) {
	qcCodec.checkQuestionsPure(t, oneQc(), append(oddQcs(), oneQc(), qcWith(0)))
}

func TestQcVotesPure(t *testing.T) {
	list := append(oddQcs(), oneQc(), qcWith(0), qcWith(255, 3), qcWith(filled(30, 255)...))
	hash := goHash(5)
	list = append(list, impl.Qc{Block: hash, Bits: hash, Tags: slices.Repeat([][]byte{hash}, len(setBits(hash)))})
	for _, q := range list {
		what := fmt.Sprintf("QcVotes(%+v)", q)
		held := holdQc(q)
		first := impl.QcVotes(held.given)
		want := voteCodec.cloneAll(first)
		held.check(t, what)
		overwriteVotes(first)
		held.check(t, what+", its result overwritten")
		second := impl.QcVotes(held.given)
		overwriteQc(held.given)
		if !voteCodec.sameAll(want, writtenQcVotes(q)) || !voteCodec.sameAll(second, want) {
			t.Errorf("%s: %+v and then %+v", what, want, second)
		}
		checkElementsApart(t, what, voteCodec.partsOfAll(second))
	}
}

// pureVotes are lists of votes with and without a certificate.
func pureVotes() [][]impl.Vote {
	hash := goHash(5)
	lists := [][]impl.Vote{
		nil, {}, {{}}, make([]impl.Vote, 20), votesBy(0), votesBy(3), votesBy(0, 2), votesBy(0, 1, 2, 3),
		votesBy(1, 0), votesBy(2, 2), votesBy(0, 4), votesBy(-1, 0), votesBy(0, 1, 2, 3, 4, 5, 6, 7, 8, 9),
		{{Block: hash, Tag: hash}, {Block: hash, Who: 1, Tag: hash}, {Block: hash, Who: 3, Tag: hash}},
	}
	for _, v := range append(oddVotes(), otherVotes(oneVote())...) {
		lists = append(lists, []impl.Vote{v}, append(votesBy(0, 1), v), append([]impl.Vote{v}, votesBy(3)...))
	}
	return lists
}

func TestQcFromPure(t *testing.T) {
	for _, list := range pureVotes() {
		for _, l := range []impl.Limits{limitsFor(4), limitsFor(10), {}} {
			what := fmt.Sprintf("QcFrom(%v, %+v)", l, list)
			held := voteCodec.holdAll(list, spareVote())
			first, ok := impl.QcFrom(l, held.given)
			want := cloneQc(first)
			held.check(t, what)
			overwriteQc(first)
			held.check(t, what+", its result overwritten")
			second, okAgain := impl.QcFrom(l, held.given)
			overwriteVotes(held.given)
			if ok != okAgain || !writtenQcSame(second, want) {
				t.Errorf("%s: %+v, %v and then %+v, %v", what, want, ok, second, okAgain)
			}
			checkFromVotes(t, l, list)
			checkElementsApart(t, what, partsOfQc(second))
		}
	}
}

// Votes may share their Block with each other and with their tags, as a caller writes them.
func TestQcFromVotesOfSharedMemory(t *testing.T) {
	all := mixedBytes(200, 4)
	before := bytes.Clone(all)
	block := all[10:42]
	list := []impl.Vote{{View: 1, Block: block, Tag: block}, {View: 1, Block: block, Who: 1, Tag: all[20:52]}, {View: 1, Block: block, Who: 3, Tag: all[168:]}}
	want := impl.Qc{View: 1, Block: bytes.Clone(block), Bits: []byte{11}, Tags: deepClone([][]byte{block, all[20:52], all[168:]})}
	q, ok := impl.QcFrom(limitsFor(4), list)
	if !ok || !writtenQcSame(q, want) {
		t.Errorf("QcFrom of shared memory: %+v, %v", q, ok)
	}
	votes := impl.QcVotes(impl.Qc{View: 1, Block: block, Bits: []byte{11}, Tags: [][]byte{block, all[20:52], all[168:]}})
	overwriteQc(q)
	checkHash(t, "the memory", all, before)
	q, _ = impl.QcFrom(limitsFor(4), list)
	overwriteBytes(all)
	qcCodec.checkSame(t, q, want, true)
	if !voteCodec.sameAll(votes, writtenQcVotes(want)) {
		t.Errorf("QcVotes of shared memory: %+v", votes)
	}
	checkElementsApart(t, "QcVotes of shared memory", voteCodec.partsOfAll(votes))
}

// A call does not keep what it returned: the next one has memory of its own.
func TestQcResultsAreNew(t *testing.T) {
	l, q := limitsFor(4), oneQc()
	b, list := rawQc(q), impl.QcVotes(q)
	qcCodec.checkGetNew(t, l, q)
	first, _ := impl.QcFrom(l, list)
	second, _ := impl.QcFrom(l, list)
	overwriteQc(first)
	qcCodec.checkSame(t, second, oneQc(), true)
	again := impl.QcVotes(q)
	overwriteVotes(list)
	if !voteCodec.sameAll(again, writtenQcVotes(oneQc())) {
		t.Errorf("QcVotes, the first result overwritten: %+v", again)
	}
	qcCodec.checkAt(t, l, b, 0, oneQc(), len(b), impl.ErOk)
	checkVotes(t, q)
}

func TestQcVotesOfNil(t *testing.T) {
	for _, x := range [][]byte{nil, {}} {
		for _, tags := range [][][]byte{nil, {}} {
			checkNoVotes(t, impl.Qc{Block: x, Bits: x, Tags: tags})
			checkNoVotes(t, impl.Qc{Block: goHash(1), Bits: []byte{0, 0}, Tags: tags})
			checkNoVotes(t, impl.Qc{Block: x, Bits: []byte{1}, Tags: tags})
		}
		got := impl.QcVotes(impl.Qc{Block: x, Bits: []byte{2}, Tags: [][]byte{x}})
		if !voteCodec.sameAll(got, []impl.Vote{{Who: 1}}) {
			t.Errorf("QcVotes of a certificate of nil and empty parts: %+v", got)
		}
		checkNoQcFrom(t, limitsFor(4), []impl.Vote{{Block: x, Tag: x}})
		checkNoQcFrom(t, limitsFor(4), []impl.Vote{{Block: goHash(1), Tag: x}})
		checkNoQcFrom(t, limitsFor(4), []impl.Vote{{Block: x, Tag: goHash(1)}})
	}
}

// Every function takes all ints, whatever the other arguments are.
func TestQcsOfExtremes(t *testing.T) {
	lists := [][][]byte{nil, {goHash(1)}, {filled(33, 1), nil}}
	for i, n := range extremes {
		for j, m := range extremes {
			q := impl.Qc{View: n, Height: m, Block: goHash(1), Bits: []byte{byte(i % 3)}, Tags: lists[j%3]}
			for _, l := range []impl.Limits{limitsFor(8), {N: n, Tx: m, Txs: n, Frame: m, Heads: n}, limitsFor(m)} {
				qcCodec.checkOk(t, l, nil, q, writtenQcOk(l, q))
				qcCodec.checkSame(t, q, cloneQc(q), true)
				checkVotes(t, q)
				checkFromVotes(t, l, writtenQcVotes(q))
			}
		}
	}
	qcCodec.checkExtremes(t, pureQcInputs())
}

// A call in between, also a refused one, leaves nothing behind.
func TestQcsKeepNoState(t *testing.T) {
	l, q := limitsFor(4), oneQc()
	for i, b := range pureQcInputs() {
		impl.GetQc(limitsFor(i), b, 0)
		impl.GetQc(impl.Limits{}, b, 1)
		impl.PutQc(limitsFor(i), b, qcWith(byte(i)))
		impl.PutQc(l, b, impl.Qc{})
		impl.QcOk(impl.Limits{}, q)
		impl.QcSame(q, impl.Qc{})
		impl.QcVotes(qcWith(b...))
		impl.QcFrom(limitsFor(i), votesBy(i, i))
		impl.QcFrom(l, votesBy(i))
		qcCodec.checkOk(t, l, nil, q, true)
		qcCodec.checkAt(t, l, rawQc(q), 0, q, len(rawQc(q)), impl.ErOk)
		qcCodec.checkNoneAt(t, l, rawQc(q)[:50], 0, impl.ErShort)
		checkThereAndBack(t, l, q)
	}
}

func TestQcsAtTheSameTime(t *testing.T) {
	var group sync.WaitGroup
	all, q, list := make([]byte, 3, 500), oneQc(), votesBy(0, 2, 3)
	for n := 1; n <= impl.MaxSigners; n++ {
		group.Go(func() {
			for _, q := range someQcs(n) {
				qcCodec.checkOk(t, limitsFor(n), all, q, true)
				qcCodec.checkAt(t, limitsFor(n), rawQc(q), 0, q, len(rawQc(q)), impl.ErOk)
				checkVotes(t, q)
			}
			checkThereAndBack(t, limitsFor(4), q)
			checkBackAndThere(t, limitsFor(4), list)
		})
	}
	group.Wait()
}
