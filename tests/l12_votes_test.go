package tests

import (
	"fmt"
	"slices"
	"testing"

	"loop.example/g00790/impl"
)

// P5 for chapter 13: a valid certificate with at least one signer and its votes
// determine each other.

// checkThereAndBack takes a certificate to its votes and back.
func checkThereAndBack(t *testing.T, l impl.Limits, q impl.Qc) {
	t.Helper()
	list := impl.QcVotes(q)
	back, ok := impl.QcFrom(l, list)
	if !ok || !writtenQcSame(back, q) {
		t.Errorf("%+v has the votes %+v, and these the certificate %+v, %v", q, list, back, ok)
	}
	if !slices.EqualFunc(list, setBits(q.Bits), func(v impl.Vote, who int) bool { return v.Who == who && writtenVoteOk(l, v) }) {
		t.Errorf("%+v has the votes %+v", q, list)
	}
}

// checkBackAndThere takes votes to their certificate and back.
func checkBackAndThere(t *testing.T, l impl.Limits, list []impl.Vote) {
	t.Helper()
	q, ok := impl.QcFrom(l, list)
	if !ok || !writtenQcOk(l, q) || !voteCodec.sameAll(impl.QcVotes(q), list) {
		t.Errorf("%+v have the certificate %+v, %v, and it has the votes %+v", list, q, ok, impl.QcVotes(q))
	}
}

func TestQcAndItsVotes(t *testing.T) {
	for n := 1; n <= impl.MaxSigners; n++ {
		l := limitsFor(n)
		for set := 1; set < 1<<n; set++ {
			checkThereAndBack(t, l, qcOfSet(set, n))
			checkBackAndThere(t, l, votesBy(signersIn(set)...))
		}
		for _, q := range someQcs(n) {
			if len(q.Tags) > 0 {
				checkThereAndBack(t, l, q)
				checkBackAndThere(t, l, writtenQcVotes(q))
			}
		}
	}
}

// A certificate that nobody signed has no votes, and no votes have no certificate.
func TestQcOfNobody(t *testing.T) {
	for n := 1; n <= impl.MaxSigners; n++ {
		q := qcOfSet(0, n)
		checkNoVotes(t, q)
		checkNoQcFrom(t, limitsFor(n), impl.QcVotes(q))
	}
}

// The way through the encoding changes neither.
func TestQcAndItsVotesEncoded(t *testing.T) {
	for n := 1; n <= impl.MaxSigners; n++ {
		l := limitsFor(n)
		for _, q := range someQcs(n) {
			b, _ := impl.PutQc(l, nil, q)
			read, _, _ := impl.GetQc(l, b, 0)
			list := impl.QcVotes(read)
			if !voteCodec.sameAll(list, writtenQcVotes(q)) {
				t.Errorf("%+v has the votes %+v when it is read", q, list)
			}
			for i, v := range list {
				x, ok := impl.PutVote(l, nil, v)
				checkPut(t, fmt.Sprintf("vote %d of %+v", i, q), x, ok, rawVote(v))
				list[i], _, _ = impl.GetVote(l, x, 0)
			}
			if len(list) > 0 {
				checkFrom(t, l, list, q, true)
			}
		}
	}
}

// Other certificates have other votes.
func TestOtherQcsHaveOtherVotes(t *testing.T) {
	for _, q := range []impl.Qc{qcWith(1), oneQc(), qcWith(15)} {
		list := impl.QcVotes(q)
		for _, other := range otherQcs(q) {
			// A longer bitmap, which is none of four signers, may still have the same ones.
			if writtenQcOk(limitsFor(4), other) && voteCodec.sameAll(impl.QcVotes(other), list) {
				t.Errorf("%+v and %+v have the same votes", q, other)
			}
		}
	}
}

// A vote is taken away, comes once more, or changes places with another.
func TestOtherVotesHaveOtherQcs(t *testing.T) {
	for _, n := range []int{2, 3, 8, 9, 10} {
		l, q := limitsFor(n), qcOfSet(1<<n-1, n)
		list := impl.QcVotes(q)
		for at := range list {
			fewer := slices.Delete(slices.Clone(list), at, at+1)
			want := cloneQc(q)
			want.Bits = bitmapOf(1<<n-1-1<<at, n)
			want.Tags = slices.Delete(want.Tags, at, at+1)
			checkFrom(t, l, fewer, want, true)
			for to := range n + 1 {
				checkNoQcFrom(t, l, slices.Insert(slices.Clone(list), to, list[at]))
				if to < n && to != at {
					checkNoQcFrom(t, l, slices.Insert(slices.Clone(fewer), to, list[at]))
				}
			}
		}
	}
}

// smallVotes are few enough that all their lists can be tried.
func smallVotes() []impl.Vote {
	var list []impl.Vote
	for who := -1; who < 4; who++ {
		for _, tag := range [][]byte{goHash(1), goHash(2), filled(31, 1)} {
			list = append(list, impl.Vote{View: 1, Height: 1, Block: goHash(7), Who: who, Tag: tag})
		}
	}
	for who := range 2 {
		list = append(list, impl.Vote{View: 2, Height: 1, Block: goHash(7), Who: who, Tag: goHash(1)})
		list = append(list, impl.Vote{View: 1, Height: 2, Block: goHash(7), Who: who, Tag: goHash(1)})
		list = append(list, impl.Vote{View: 1, Height: 1, Block: goHash(8), Who: who, Tag: goHash(1)})
	}
	return append(list, impl.Vote{})
}

// votesKey tells lists of votes apart.
func votesKey(list []impl.Vote) string { return fmt.Sprintf("%x", list) }

// smallQcs are the certificates of three validators, by their votes, of which
// lists of small votes can be those.
func smallQcs() map[string]impl.Qc {
	all := map[string]impl.Qc{}
	eachInput([]byte{0, 1, 2}, 3, func(b []byte) {
		if len(b) < 3 {
			return
		}
		for _, q := range []impl.Qc{{View: 1, Height: 1, Block: goHash(7)}, {View: 2, Height: 1, Block: goHash(7)}, {View: 1, Height: 2, Block: goHash(7)}, {View: 1, Height: 1, Block: goHash(8)}} {
			q.Bits = []byte{0}
			for who, c := range b {
				if c > 0 {
					q.Bits[0] |= 1 << who
					q.Tags = append(q.Tags, goHash(c))
				}
			}
			if len(q.Tags) > 0 {
				all[votesKey(impl.QcVotes(q))] = q
			}
		}
	})
	return all
}

// Of all lists of up to three small votes, those that are the votes of a
// certificate have it, and no others have one.
func TestListsOfVotesAndTheirQcs(t *testing.T) {
	l, votes, qcs, found := limitsFor(3), smallVotes(), smallQcs(), map[string]bool{}
	var alphabet []byte
	for i := range votes {
		alphabet = append(alphabet, byte(i))
	}
	eachInput(alphabet, 3, func(b []byte) {
		var list []impl.Vote
		for _, c := range b {
			list = append(list, votes[c])
		}
		key := votesKey(list)
		q, ok := qcs[key]
		found[key] = found[key] || ok
		checkFrom(t, l, list, q, ok)
	})
	count := 0
	for _, ok := range found {
		if ok {
			count++
		}
	}
	// 26 choices of signers and tags at View 1, Height 1 and one Block; and with
	// each of the other three, the three sets of the first two signers.
	if count != 26+3*3 {
		t.Errorf("%d lists of votes have a certificate", count)
	}
}
