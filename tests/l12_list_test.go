package tests

import (
	"fmt"
	"math"
	"slices"
	"testing"

	"loop.example/g00790/impl"
)

// P12 for chapter 13: QcVotes and QcFrom return what the chapter specifies.

// votesBy returns votes of these signers that agree in all but their tags.
func votesBy(signers ...int) []impl.Vote {
	var list []impl.Vote
	for _, who := range signers {
		list = append(list, impl.Vote{View: 300, Height: 2, Block: goHash(7), Who: who, Tag: goHash(8, varint(who))})
	}
	return list
}

// writtenQcVotes takes the tags one by one.
func writtenQcVotes(q impl.Qc) []impl.Vote {
	var list []impl.Vote
	signers, rest := setBits(q.Bits), q.Tags
	if len(rest) != len(signers) {
		return nil
	}
	for _, who := range signers {
		list = append(list, impl.Vote{View: q.View, Height: q.Height, Block: q.Block, Who: who, Tag: rest[0]})
		rest = rest[1:]
	}
	return list
}

// writtenQcFrom asks what votes have that are those of a valid certificate: each
// is valid, the signers ascend, and all else but the tags is the same.
func writtenQcFrom(l impl.Limits, list []impl.Vote) (impl.Qc, bool) {
	var q impl.Qc
	set := 0
	for i, v := range list {
		if !writtenVoteOk(l, v) {
			return impl.Qc{}, false
		}
		agreed := v
		agreed.Who, agreed.Tag = list[0].Who, list[0].Tag
		if i > 0 && (v.Who <= list[i-1].Who || !writtenVoteSame(agreed, list[0])) {
			return impl.Qc{}, false
		}
		set += 1 << v.Who
		q.View, q.Height, q.Block, q.Tags = v.View, v.Height, v.Block, append(q.Tags, v.Tag)
	}
	if len(list) == 0 {
		return impl.Qc{}, false
	}
	q.Bits = bitmapOf(set, l.N)
	return q, true
}

// checkVotes compares QcVotes with the chapter.
func checkVotes(t *testing.T, q impl.Qc) {
	t.Helper()
	if got, want := impl.QcVotes(q), writtenQcVotes(q); !voteCodec.sameAll(got, want) {
		t.Errorf("QcVotes(%+v) = %+v instead of %+v", q, got, want)
	}
}

func checkNoVotes(t *testing.T, q impl.Qc) {
	t.Helper()
	if got := impl.QcVotes(q); len(got) != 0 {
		t.Errorf("QcVotes(%+v) = %+v", q, got)
	}
}

// checkFrom reports what QcFrom returns if it is not as wanted.
func checkFrom(t *testing.T, l impl.Limits, list []impl.Vote, want impl.Qc, wantOk bool) {
	t.Helper()
	if q, ok := impl.QcFrom(l, list); !writtenQcSame(q, want) || ok != wantOk {
		t.Errorf("QcFrom(%+v, %+v) = %+v, %v instead of %+v, %v", l, list, q, ok, want, wantOk)
	}
}

func checkNoQcFrom(t *testing.T, l impl.Limits, list []impl.Vote) {
	t.Helper()
	checkFrom(t, l, list, impl.Qc{}, false)
}

// checkFromVotes compares QcFrom with the chapter.
func checkFromVotes(t *testing.T, l impl.Limits, list []impl.Vote) {
	t.Helper()
	q, ok := writtenQcFrom(l, list)
	checkFrom(t, l, list, q, ok)
}

func TestKnownVotesOfQc(t *testing.T) {
	block, first, second := goHash(7), goHash(1), goHash(2)
	cases := []struct {
		n    int
		q    impl.Qc
		list []impl.Vote
	}{
		{4, impl.Qc{View: 3, Height: 1, Block: block, Bits: []byte{5}, Tags: [][]byte{first, second}}, []impl.Vote{{View: 3, Height: 1, Block: block, Who: 0, Tag: first}, {View: 3, Height: 1, Block: block, Who: 2, Tag: second}}},
		{10, impl.Qc{View: 300, Block: block, Bits: []byte{128, 3}, Tags: [][]byte{second, first, block}}, []impl.Vote{{View: 300, Block: block, Who: 7, Tag: second}, {View: 300, Block: block, Who: 8, Tag: first}, {View: 300, Block: block, Who: 9, Tag: block}}},
		{1, impl.Qc{Height: impl.MaxNum, Block: first, Bits: []byte{1}, Tags: [][]byte{first}}, []impl.Vote{{Height: impl.MaxNum, Block: first, Tag: first}}},
		{9, impl.Qc{View: 1, Height: 1, Block: first, Bits: []byte{0, 1}, Tags: [][]byte{second}}, []impl.Vote{{View: 1, Height: 1, Block: first, Who: 8, Tag: second}}},
	}
	for _, c := range cases {
		if got := impl.QcVotes(c.q); !voteCodec.sameAll(got, c.list) {
			t.Errorf("QcVotes(%+v) = %+v", c.q, got)
		}
		checkFrom(t, limitsFor(c.n), c.list, c.q, true)
	}
	checkNoVotes(t, impl.Qc{})
	checkNoVotes(t, qcWith(0))
	checkNoVotes(t, qcWith(0, 0))
}

func TestVotesOfEveryQc(t *testing.T) {
	for n := 1; n <= impl.MaxSigners; n++ {
		for set := range 1 << n {
			checkVotes(t, qcOfSet(set, n))
			checkFromVotes(t, limitsFor(n), votesBy(signersIn(set)...))
		}
		for _, q := range someQcs(n) {
			checkVotes(t, q)
		}
	}
}

// A certificate that is not valid has votes too if it has as many tags as set bits.
func TestVotesOfOddQcs(t *testing.T) {
	for _, bits := range [][]byte{{255}, {16}, {0, 4}, {255, 255}, {0, 0, 0, 128}, {0, 0, 0}, filled(40, 170), filled(200, 255), filled(300, 0, 1), filled(5000, 0, 128, 0, 0)} {
		q := qcWith(bits...)
		checkVotes(t, q)
		if got := impl.QcVotes(q); len(got) != len(setBits(bits)) {
			t.Errorf("QcVotes of the bitmap %v: %d votes", bits, len(got))
		}
		for _, n := range append(notNumbers, extremes...) {
			q.View, q.Height = n, -n
			checkVotes(t, q)
		}
		for _, x := range notHashes() {
			q.Block = x
			checkVotes(t, q)
			for at := range q.Tags {
				q.Tags[at] = x
				if at < 20 {
					checkVotes(t, q)
				}
			}
			checkVotes(t, q)
			q.Tags = tagsFor(len(q.Tags))
		}
	}
	for _, q := range otherQcs(oneQc()) {
		checkVotes(t, q)
	}
}

func TestVotesOfOtherNumberOfTags(t *testing.T) {
	for _, bits := range [][]byte{nil, {}, {0}, {1}, {13}, {255}, {255, 3}, filled(30, 255), filled(3000, 255)} {
		q := qcWith(bits...)
		count := len(q.Tags)
		for _, size := range []int{0, 1, 2, count - 1, count + 1, count + 2, 2 * count, count + 1000} {
			if size >= 0 && size != count {
				q.Tags = tagsFor(size)
				checkNoVotes(t, q)
			}
		}
		if count > 0 {
			q.Tags = nil
			checkNoVotes(t, q)
		}
		q.Tags = make([][]byte, count+1)
		checkNoVotes(t, q)
	}
}

func TestQcFromNoVotes(t *testing.T) {
	for n := range 12 {
		checkNoQcFrom(t, limitsFor(n), nil)
		checkNoQcFrom(t, limitsFor(n), []impl.Vote{})
	}
	checkNoQcFrom(t, impl.Limits{}, nil)
	checkNoQcFrom(t, limitsFor(4), []impl.Vote{{}})
	checkNoQcFrom(t, limitsFor(4), make([]impl.Vote, 5))
}

func TestQcFromOneVote(t *testing.T) {
	for n := 1; n <= impl.MaxSigners; n++ {
		for who := -5; who < n+300; who++ {
			checkFromVotes(t, limitsFor(n), votesBy(who))
			if _, ok := impl.QcFrom(limitsFor(n), votesBy(who)); ok != (who >= 0 && who < n) {
				t.Errorf("QcFrom a vote of validator %d of %d: %v", who, n, ok)
			}
		}
		for _, who := range notSigners(n) {
			checkNoQcFrom(t, limitsFor(n), votesBy(who))
			if n > 1 {
				checkNoQcFrom(t, limitsFor(n), votesBy(0, who))
				checkNoQcFrom(t, limitsFor(n), votesBy(who, n-1))
			}
		}
		for _, v := range someVotes(n) {
			checkFrom(t, limitsFor(n), []impl.Vote{v}, impl.Qc{View: v.View, Height: v.Height, Block: v.Block, Bits: bitmapOf(1<<v.Who, n), Tags: [][]byte{v.Tag}}, true)
		}
	}
}

// Every list of up to four signers, in any order, once or more often: only the
// ascending ones have a certificate.
func TestQcFromSignersInAnyOrder(t *testing.T) {
	l := limitsFor(4)
	eachInput([]byte{0, 1, 2, 3, 4}, 4, func(b []byte) {
		var signers []int
		for _, c := range b {
			signers = append(signers, int(c))
		}
		checkFromVotes(t, l, votesBy(signers...))
	})
	for _, signers := range [][]int{{1, 0}, {0, 0}, {0, 1, 1}, {0, 2, 1, 3}, {3, 2, 1, 0}, {0, 1, 2, 3, 3}, {0, 1, 2, 3, 0}, {0, 1, 2, 3, 4}, {-1, 0}, {0, 256}, {0, 1, 2, 3, 0, 1, 2, 3}} {
		checkNoQcFrom(t, l, votesBy(signers...))
	}
	same := votesBy(2)
	checkNoQcFrom(t, l, append(same, same...))
	checkNoQcFrom(t, l, slices.Repeat(same, 1000))
	all := limitsFor(10)
	checkFromVotes(t, all, votesBy(0, 1, 2, 3, 4, 5, 6, 7, 8, 9))
	checkNoQcFrom(t, all, votesBy(0, 1, 2, 3, 4, 5, 6, 7, 9, 8))
	checkNoQcFrom(t, all, votesBy(0, 1, 2, 3, 4, 5, 6, 8, 7, 9))
	checkNoQcFrom(t, all, votesBy(8, 0))
	checkNoQcFrom(t, all, votesBy(0, 1, 2, 3, 4, 5, 6, 7, 8, 9, 10))
}

// One vote of several differs, in each part and at each place, or is not valid.
func TestQcFromOtherVotes(t *testing.T) {
	l := limitsFor(4)
	for _, signers := range [][]int{{2}, {0, 1}, {1, 3}, {0, 1, 3}, {0, 1, 2, 3}} {
		whole := votesBy(signers...)
		checkFromVotes(t, l, whole)
		for at := range whole {
			for _, other := range otherVotes(whole[at]) {
				list := slices.Clone(whole)
				list[at] = other
				checkFromVotes(t, l, list)
			}
			for _, other := range []impl.Vote{{}, oneVote(), {View: 301, Height: 2, Block: goHash(7), Who: whole[at].Who, Tag: goHash(1)}, {View: 300, Height: 3, Block: goHash(7), Who: whole[at].Who, Tag: goHash(1)}, {View: 300, Height: 2, Block: goHash(6), Who: whole[at].Who, Tag: goHash(1)}} {
				list := slices.Clone(whole)
				list[at] = other
				checkFromVotes(t, l, list)
			}
		}
	}
	pair := votesBy(0, 3)
	for name, in := range voteNumbers {
		list := voteCodec.cloneAll(pair)
		*in(&list[1])++
		checkNoQcFrom(t, l, list)
		if name != "Who" {
			*in(&list[0])++
			checkFromVotes(t, l, list)
		}
	}
	list := voteCodec.cloneAll(pair)
	list[1].Block[31]++
	checkNoQcFrom(t, l, list)
}

// All votes have the same part, which is not valid.
func TestQcFromVotesThatAreNotValid(t *testing.T) {
	for n := 1; n <= impl.MaxSigners; n++ {
		whole := votesBy(signersIn(1<<n - 1)...)
		for _, in := range voteHashes {
			for _, x := range notHashes() {
				list := voteCodec.cloneAll(whole)
				for i := range list {
					*in(&list[i]) = x
				}
				checkNoQcFrom(t, limitsFor(n), list)
			}
		}
		for _, name := range []string{"View", "Height"} {
			for _, number := range notNumbers {
				list := voteCodec.cloneAll(whole)
				for i := range list {
					*voteNumbers[name](&list[i]) = number
				}
				checkNoQcFrom(t, limitsFor(n), list)
			}
		}
		for _, x := range notHashes() {
			for at := range whole {
				list := voteCodec.cloneAll(whole)
				list[at].Tag = x
				checkNoQcFrom(t, limitsFor(n), list)
			}
		}
	}
}

func TestQcFromOfLimits(t *testing.T) {
	for _, l := range wrongLimits() {
		checkNoQcFrom(t, l, nil)
		checkNoQcFrom(t, l, votesBy(0))
		checkNoQcFrom(t, l, votesBy(0, 1, 2, 3))
		checkNoQcFrom(t, l, []impl.Vote{{}})
	}
	for _, l := range someLimits {
		checkFromVotes(t, l, votesBy(0))
		checkFromVotes(t, l, votesBy(l.N-1))
		checkFromVotes(t, l, votesBy(signersIn(1<<l.N-1)...))
		checkNoQcFrom(t, l, votesBy(l.N))
		checkNoQcFrom(t, l, votesBy(signersIn(2<<l.N-1)...))
	}
	// The bitmap is as long as the validators need, not as the signers do.
	for n := 1; n <= impl.MaxSigners; n++ {
		q, ok := impl.QcFrom(limitsFor(n), votesBy(0))
		checkPut(t, fmt.Sprintf("the bitmap of validator 0 of %d", n), q.Bits, ok, bitmapOf(1, n))
	}
}

// No list of votes overflows anything, however far its signers are.
func TestQcFromOfExtremes(t *testing.T) {
	for _, who := range extremes {
		for _, n := range extremes {
			v := impl.Vote{View: n, Height: who, Block: goHash(1), Who: who, Tag: goHash(2)}
			for _, l := range []impl.Limits{limitsFor(10), limitsFor(n), {N: n, Tx: who, Txs: n, Frame: who, Heads: n}} {
				checkFromVotes(t, l, []impl.Vote{v})
				checkFromVotes(t, l, []impl.Vote{v, {View: n, Height: who, Block: goHash(1), Who: math.MaxInt, Tag: goHash(2)}})
			}
		}
	}
}
