package tests

import (
	"bytes"
	"encoding/binary"
	"math"
	"slices"
	"testing"

	"loop.example/g00790/impl"
)

// P12 for chapter 12: every function returns what the chapter specifies.

// voteNumbers and voteHashes are the fields of a vote; of each a test can change one alone.
var voteNumbers = map[string]func(v *impl.Vote) *int{
	"View":   func(v *impl.Vote) *int { return &v.View },
	"Height": func(v *impl.Vote) *int { return &v.Height },
	"Who":    func(v *impl.Vote) *int { return &v.Who },
}

var voteHashes = map[string]func(v *impl.Vote) *[]byte{
	"Block": func(v *impl.Vote) *[]byte { return &v.Block },
	"Tag":   func(v *impl.Vote) *[]byte { return &v.Tag },
}

// edgeNumbers are the numbers on both sides of every length of an encoding.
func edgeNumbers() []int {
	list := []int{0, 1}
	for shift := 7; shift < 60; shift += 7 {
		list = append(list, 1<<shift-1, 1<<shift)
	}
	return append(list, impl.MaxNum-1, impl.MaxNum)
}

var notNumbers = []int{math.MinInt, math.MinInt + 1, -1 << 32, -129, -128, -2, -1, impl.MaxNum + 1, impl.MaxNum + 2, 1 << 61, 1 << 62, math.MaxInt - 1, math.MaxInt}

// notSigners are indexes that no validator of n has.
func notSigners(n int) []int {
	return append([]int{n, n + 1, n + 7, 127, 128, 255, 256, 1<<32 + n, math.MinInt + n, impl.MaxNum - 1, impl.MaxNum}, notNumbers...)
}

// limitsFor returns valid limits of n validators.
func limitsFor(n int) impl.Limits {
	return impl.Limits{N: n, Tx: 10, Txs: 4, Frame: 4000, Heads: 5}
}

// wrongLimits have one field off.
func wrongLimits() []impl.Limits {
	list := []impl.Limits{{}}
	for _, f := range limitFields {
		for _, n := range []int{math.MinInt, -1, f.least - 1, f.most + 1, math.MaxInt} {
			list = append(list, f.with(limitsFor(4), n))
		}
	}
	return list
}

// someVotes are valid votes of n validators: each edge of View meets each one of
// Height, and every validator votes.
func someVotes(n int) []impl.Vote {
	var list []impl.Vote
	hashes := [][]byte{filled(32, 0), filled(32, 255), mixedBytes(32, 12), goHash(1), goHash(2), filled(32, 128)}
	for _, view := range edgeNumbers() {
		for _, height := range edgeNumbers() {
			i := len(list)
			list = append(list, impl.Vote{View: view, Height: height, Block: hashes[i%6], Who: i % n, Tag: hashes[i/6%6]})
		}
	}
	return list
}

func oneVote() impl.Vote {
	return impl.Vote{View: 300, Height: 2, Block: goHash(7), Who: 3, Tag: goHash(9)}
}

func cloneVote(v impl.Vote) impl.Vote {
	v.Block, v.Tag = bytes.Clone(v.Block), bytes.Clone(v.Tag)
	return v
}

func writtenVoteOk(l impl.Limits, v impl.Vote) bool {
	numbers := v.View >= 0 && v.View <= 1152921504606846975 && v.Height >= 0 && v.Height <= 1152921504606846975
	return writtenLimitsOk(l) && numbers && len(v.Block) == 32 && v.Who >= 0 && v.Who <= l.N-1 && len(v.Tag) == 32
}

func writtenVoteSame(a, b impl.Vote) bool {
	numbers := a.View == b.View && a.Height == b.Height && a.Who == b.Who
	return numbers && bytes.Equal(a.Block, b.Block) && bytes.Equal(a.Tag, b.Tag)
}

// varint is the encoding of a number by encoding/binary, which also encodes what is no number.
func varint(n int) []byte { return binary.AppendUvarint(nil, uint64(n)) }

// rawVote puts the parts of a vote together, valid or not.
func rawVote(v impl.Vote) []byte {
	return slices.Concat(varint(v.View), varint(v.Height), v.Block, varint(v.Who), v.Tag)
}

// writtenGetVote names the parts one by one, as the chapter does.
func writtenGetVote(l impl.Limits, b []byte, at int) (impl.Vote, int, int) {
	none := impl.Vote{}
	if !writtenLimitsOk(l) {
		return none, 0, impl.ErValue
	}
	view, next, er := impl.GetVar(b, at)
	if er != impl.ErOk {
		return none, 0, er
	}
	height, next, er := impl.GetVar(b, next)
	if er != impl.ErOk {
		return none, 0, er
	}
	block, next, er := impl.GetRaw(b, next, 32)
	if er != impl.ErOk {
		return none, 0, er
	}
	who, next, er := impl.GetVar(b, next)
	if er != impl.ErOk {
		return none, 0, er
	}
	if who >= l.N {
		return none, 0, impl.ErValue
	}
	tag, next, er := impl.GetRaw(b, next, 32)
	if er != impl.ErOk {
		return none, 0, er
	}
	return impl.Vote{View: view, Height: height, Block: block, Who: who, Tag: tag}, next, impl.ErOk
}

var voteCodec = codec[impl.Vote]{
	name: "Vote", ok: impl.VoteOk, same: impl.VoteSame, put: impl.PutVote, get: impl.GetVote,
	writtenOk: writtenVoteOk, writtenSame: writtenVoteSame, writtenGet: writtenGetVote, raw: rawVote,
	others: otherVotes, clone: cloneVote, hold: holdVote, parts: partsOfVote, ruin: overwriteVote,
}

func TestVoteKnown(t *testing.T) {
	block, tag := filled(32, 7), filled(32, 9)
	most := filled(8, 255, 15)
	cases := []struct {
		n    int
		v    impl.Vote
		want []byte
	}{
		{4, impl.Vote{View: 300, Height: 2, Block: block, Who: 3, Tag: tag}, slices.Concat([]byte{172, 2, 2}, block, []byte{3}, tag)},
		{1, impl.Vote{View: 0, Height: 0, Block: block, Who: 0, Tag: tag}, slices.Concat([]byte{0, 0}, block, []byte{0}, tag)},
		{10, impl.Vote{View: 1, Height: 127, Block: tag, Who: 9, Tag: block}, slices.Concat([]byte{1, 127}, tag, []byte{9}, block)},
		{2, impl.Vote{View: 128, Height: 16384, Block: block, Who: 1, Tag: block}, slices.Concat([]byte{128, 1, 128, 128, 1}, block, []byte{1}, block)},
		{10, impl.Vote{View: 1152921504606846975, Height: 1152921504606846975, Block: block, Who: 8, Tag: tag}, slices.Concat(most, most, block, []byte{8}, tag)},
	}
	for _, c := range cases {
		voteCodec.checkKnown(t, limitsFor(c.n), c.v, c.want)
	}
}

func TestVotesOfEverySize(t *testing.T) {
	for n := 1; n <= impl.MaxSigners; n++ {
		for _, v := range someVotes(n) {
			voteCodec.checkValid(t, limitsFor(n), v)
		}
	}
}

// One number takes all its edges while the other parts stay valid.
func TestVoteNumbers(t *testing.T) {
	l := limitsFor(4)
	for name, in := range voteNumbers {
		v := oneVote()
		for _, n := range edgeNumbers() {
			*in(&v) = n
			voteCodec.checkOk(t, l, nil, v, name != "Who" || n < 4)
			voteCodec.checkOk(t, l, []byte{5}, v, name != "Who" || n < 4)
			voteCodec.checkInput(t, l, rawVote(v), 0)
		}
		for _, n := range append(notNumbers, extremes...) {
			*in(&v) = n
			voteCodec.checkOk(t, l, nil, v, writtenVoteOk(l, v))
			voteCodec.checkOk(t, l, []byte{5}, v, writtenVoteOk(l, v))
		}
		for _, n := range notNumbers {
			*in(&v) = n
			voteCodec.checkOk(t, l, nil, v, false)
			voteCodec.checkNoneAt(t, l, rawVote(v), 0, impl.ErVar)
		}
	}
}

func TestVotesOfEverySigner(t *testing.T) {
	for n := 1; n <= impl.MaxSigners; n++ {
		l, v := limitsFor(n), oneVote()
		for v.Who = -3; v.Who < n+200; v.Who++ {
			ok := v.Who >= 0 && v.Who < n
			voteCodec.checkOk(t, l, nil, v, ok)
			switch {
			case ok:
				voteCodec.checkAt(t, l, rawVote(v), 0, v, len(rawVote(v)), impl.ErOk)
			case v.Who >= n:
				voteCodec.checkNoneAt(t, l, rawVote(v), 0, impl.ErValue)
			}
		}
		for _, v.Who = range notSigners(n) {
			voteCodec.checkOk(t, l, nil, v, false)
			voteCodec.checkInput(t, l, rawVote(v), 0)
		}
	}
}

func TestVoteHashes(t *testing.T) {
	l := limitsFor(4)
	for _, in := range voteHashes {
		v := oneVote()
		for size := range 100 {
			*in(&v) = mixedBytes(size, size)
			voteCodec.checkOk(t, l, nil, v, size == 32)
			voteCodec.checkOk(t, l, []byte{5}, v, size == 32)
		}
		for _, x := range notHashes() {
			*in(&v) = x
			voteCodec.checkOk(t, l, nil, v, false)
		}
		for i := range 32 {
			for _, c := range []byte{0, 1, 127, 128, 255} {
				*in(&v) = filled(32, 3)
				(*in(&v))[i] = c
				voteCodec.checkOk(t, l, nil, v, true)
				voteCodec.checkAt(t, l, rawVote(v), 0, v, len(rawVote(v)), impl.ErOk)
			}
		}
	}
}

// Every part takes valid and other values together with those of all other parts.
func TestVoteParts(t *testing.T) {
	numbers := []int{math.MinInt, -1, 0, 5, impl.MaxNum, impl.MaxNum + 1, math.MaxInt}
	hashes := [][]byte{nil, {}, goHash(1), filled(31, 1), filled(33, 1)}
	for _, l := range []impl.Limits{limitsFor(1), limitsFor(4), {}} {
		for _, view := range numbers {
			for _, height := range numbers {
				for _, who := range []int{-1, 0, l.N - 1, l.N} {
					for _, block := range hashes {
						for _, tag := range hashes {
							v := impl.Vote{View: view, Height: height, Block: block, Who: who, Tag: tag}
							voteCodec.checkOk(t, l, nil, v, writtenVoteOk(l, v))
						}
					}
				}
			}
		}
	}
}

func TestVoteLimits(t *testing.T) {
	v := impl.Vote{View: 300, Height: 2, Block: goHash(7), Tag: goHash(9)}
	for _, base := range append(someLimits, limitsFor(4)) {
		voteCodec.checkLimits(t, base, v)
	}
	voteCodec.checkOk(t, impl.Limits{}, nil, impl.Vote{}, false)
	voteCodec.checkOk(t, limitsFor(4), nil, impl.Vote{}, false)
}

func TestVoteOfWrongLimits(t *testing.T) {
	inputs := [][]byte{nil, {}, {0}, {128}, {128, 0}, rawVote(oneVote()), rawVote(oneVote())[:20], filled(80, 255), filled(80, 0)}
	voteCodec.checkWrongLimits(t, inputs, oneVote(), impl.Vote{})
}

func TestVoteOffsets(t *testing.T) {
	voteCodec.checkOffsets(t, limitsFor(4), rawVote(oneVote()), filled(200, 1), filled(200, 128))
}

// changedNumbers are ints other than n, near it and far from it.
func changedNumbers(n int) []int {
	return []int{n + 1, n - 1, n ^ 128, n ^ 1<<32, -n - 1, n ^ math.MinInt}
}

// changedBytes are byte strings that differ from x in one byte or in their length.
func changedBytes(x []byte) [][]byte {
	list := [][]byte{append(bytes.Clone(x), 0), append([]byte{0}, x...)}
	for i := range x {
		changed := bytes.Clone(x)
		changed[i] ^= 1 << (i % 8)
		list = append(list, changed)
	}
	if len(x) > 0 {
		list = append(list, x[1:], x[:len(x)-1], nil, []byte{})
	}
	return list
}

// otherVotes are votes that differ from v in one part: in its value, in one
// byte, or in its length.
func otherVotes(v impl.Vote) []impl.Vote {
	return changedFields(v, cloneVote, voteNumbers, voteHashes)
}

func TestVoteSameOfOneDifference(t *testing.T) {
	for _, v := range append(someVotes(10), oneVote(), impl.Vote{}, impl.Vote{View: -7, Height: math.MinInt, Block: []byte{1}, Who: math.MaxInt}) {
		voteCodec.checkDifferences(t, v)
	}
}

// Small votes meet one another; bytes may stand in Block or in Tag, numbers in any field.
func TestVoteSameOfSmallVotes(t *testing.T) {
	var list []impl.Vote
	parts := [][]byte{nil, {}, {0}, {1}, {0, 0}}
	for at := range 8 {
		for _, block := range parts {
			for _, tag := range parts {
				list = append(list, impl.Vote{View: at & 1, Height: at >> 1 & 1, Block: block, Who: at >> 2, Tag: tag})
			}
		}
	}
	voteCodec.checkEachPair(t, list)
}

func TestVoteOfNil(t *testing.T) {
	l, v := limitsFor(4), oneVote()
	var parts [2][]byte
	for i, b := range [][]byte{nil, {}} {
		parts[i], _ = impl.PutVote(l, b, v)
		checkHash(t, "PutVote behind nothing", parts[i], rawVote(v))
		voteCodec.checkNoneAt(t, l, b, 0, impl.ErShort)
	}
	checkHash(t, "PutVote behind nil and behind nothing", parts[0], parts[1])
	for _, x := range [][]byte{nil, {}} {
		for _, y := range [][]byte{nil, {}} {
			voteCodec.checkSame(t, impl.Vote{Block: x}, impl.Vote{Tag: y}, true)
			voteCodec.checkSame(t, impl.Vote{Block: x, Tag: y}, impl.Vote{Block: y, Tag: x}, true)
			voteCodec.checkSame(t, impl.Vote{Block: x, Tag: goHash(1)}, impl.Vote{Block: y, Tag: goHash(1)}, true)
			voteCodec.checkSame(t, impl.Vote{Block: x}, impl.Vote{Block: []byte{0}}, false)
			voteCodec.checkSame(t, impl.Vote{Tag: x}, impl.Vote{Tag: []byte{0}}, false)
			voteCodec.checkOk(t, l, nil, impl.Vote{Block: x, Tag: y}, false)
		}
	}
}
