package tests

import (
	"math"
	"slices"
	"testing"

	"loop.example/g00790/impl"
)

// P12 for chapter 17: the functions of commit proofs return what the chapter
// specifies. Those of transaction proofs are tested in l16_incl_test.go.

// proofLimits allow the numbers of headers up to most.
func proofLimits(n, most int) impl.Limits {
	l := limitsFor(n)
	l.Heads = most
	return l
}

// proofOf returns a proof of these headers, valid or not, and of the last one's
// certificate by a set of the n validators.
func proofOf(heads []impl.Head, set, n int) impl.Proof {
	if len(heads) == 0 {
		return impl.Proof{Qc: qcOfSet(set, n)}
	}
	return impl.Proof{Heads: heads, Qc: qcFor(heads[len(heads)-1], set, n)}
}

// proofWith returns a proof of some headers of four validators, of which each is
// the parent of the next one.
func proofWith(size int) impl.Proof { return proofOf(chainOf(4, size), 11, 4) }

func cloneProof(x impl.Proof) impl.Proof {
	return impl.Proof{Heads: headCodec.cloneAll(x.Heads), Qc: cloneQc(x.Qc)}
}

// bareProof is a short valid proof: no certificate in it has a tag.
func bareProof(size int) impl.Proof {
	var heads []impl.Head
	for i := range size {
		h := headWith(0)
		h.Proposer = i % 4
		heads = append(heads, h)
	}
	return proofOf(heads, 0, 4)
}

// validProofs are proofs of every number of headers that the limits allow: of
// headers that are parents of each other, of others, and of one header alone.
func validProofs(l impl.Limits) []impl.Proof {
	var list []impl.Proof
	all, heads := 1<<l.N-1, someHeads(l.N)
	for size := 3; size <= l.Heads; size++ {
		chain := chainOf(l.N, size)
		turned := slices.Clone(chain)
		slices.Reverse(turned)
		list = append(list, proofOf(chain, all, l.N), proofOf(turned, 1, l.N))
		for i, h := range heads[:min(10, len(heads))] {
			list = append(list, proofOf(slices.Repeat([]impl.Head{h}, size), i&all, l.N))
			if i+size <= len(heads) {
				list = append(list, proofOf(heads[i:i+size], i*37&all, l.N))
			}
		}
		other := proofOf(chain, all, l.N)
		other.Qc.Block = filled(32, 255)
		list = append(list, other)
	}
	return list
}

func writtenProofOk(l impl.Limits, x impl.Proof) bool {
	size := len(x.Heads)
	if !writtenLimitsOk(l) || size < 3 || size > l.Heads || !writtenQcOk(l, x.Qc) {
		return false
	}
	for _, h := range x.Heads {
		if !writtenHeadOk(l, h) {
			return false
		}
	}
	return x.Qc.View == x.Heads[size-1].View && x.Qc.Height == x.Heads[size-1].Height
}

func writtenProofSame(a, b impl.Proof) bool {
	return headCodec.sameAll(a.Heads, b.Heads) && writtenQcSame(a.Qc, b.Qc)
}

// partsOfRawProof are the encodings of all parts of a proof: the number of
// headers, ten parts of each, and those of the certificate.
func partsOfRawProof(x impl.Proof) [][]byte {
	parts := [][]byte{varint(len(x.Heads))}
	for _, h := range x.Heads {
		parts = append(parts, partsOfRawHead(h)...)
	}
	return append(parts, partsOfRawQc(x.Qc)...)
}

// headPart is the place of View of a header among the parts of a proof. Behind
// the last header, it is the place of View of the certificate.
func headPart(i int) int { return 1 + 10*i }

// rawProof puts the parts of a proof together, valid or not.
func rawProof(x impl.Proof) []byte { return slices.Concat(partsOfRawProof(x)...) }

// writtenGetProof names the parts one by one, as the chapter does.
func writtenGetProof(l impl.Limits, b []byte, at int) (impl.Proof, int, int) {
	none := impl.Proof{}
	if !writtenLimitsOk(l) {
		return none, 0, impl.ErValue
	}
	count, next, er := impl.GetVar(b, at)
	if er != impl.ErOk {
		return none, 0, er
	}
	if count < 3 {
		return none, 0, impl.ErValue
	}
	if count > l.Heads {
		return none, 0, impl.ErLong
	}
	var x impl.Proof
	for range count {
		var h impl.Head
		h, next, er = writtenGetHead(l, b, next)
		if er != impl.ErOk {
			return none, 0, er
		}
		x.Heads = append(x.Heads, h)
	}
	x.Qc, next, er = writtenGetQc(l, b, next)
	if er != impl.ErOk {
		return none, 0, er
	}
	if last := x.Heads[count-1]; x.Qc.View != last.View || x.Qc.Height != last.Height {
		return none, 0, impl.ErOrder
	}
	return x, next, impl.ErOk
}

// otherProofs are proofs that differ from x in one part of one header or of the
// certificate, in the order of two headers, or in their number.
func otherProofs(x impl.Proof) []impl.Proof {
	var list []impl.Proof
	more := headOver(impl.Qc{View: 900, Height: 77, Block: goHash(77), Bits: []byte{0}})
	for _, heads := range headCodec.changedAll(x.Heads, more) {
		list = append(list, impl.Proof{Heads: heads, Qc: cloneQc(x.Qc)})
	}
	for _, q := range otherQcs(x.Qc) {
		list = append(list, impl.Proof{Heads: headCodec.cloneAll(x.Heads), Qc: q})
	}
	return list
}

var proofCodec = codec[impl.Proof]{
	name: "Proof", ok: impl.ProofOk, same: impl.ProofSame, put: impl.PutProof, get: impl.GetProof,
	writtenOk: writtenProofOk, writtenSame: writtenProofSame, writtenGet: writtenGetProof, raw: rawProof,
	others: otherProofs, clone: cloneProof, hold: holdProof, parts: partsOfProof, ruin: overwriteProof,
}

func TestProofKnown(t *testing.T) {
	six, seven, eight, nine := filled(32, 6), filled(32, 7), filled(32, 8), filled(32, 9)
	first := impl.Head{View: 5, Height: 2, Proposer: 1, Parent: seven, Root: eight, Qc: impl.Qc{View: 4, Height: 1, Block: seven, Bits: []byte{0}}}
	second := impl.Head{View: 300, Height: 129, Proposer: 3, Parent: six, Root: eight, Qc: impl.Qc{View: 128, Height: 128, Block: six, Bits: []byte{5}, Tags: [][]byte{nine, six}}}
	firstBytes := slices.Concat([]byte{5, 2, 1}, seven, eight, []byte{4, 1}, seven, []byte{0})
	secondBytes := slices.Concat([]byte{172, 2, 129, 1, 3}, six, eight, []byte{128, 1, 128, 1}, six, []byte{5}, nine, six)
	ofFirst := impl.Qc{View: 5, Height: 2, Block: nine, Bits: []byte{8}, Tags: [][]byte{eight}}
	ofSecond := impl.Qc{View: 300, Height: 129, Block: seven, Bits: []byte{0}}
	ofFirstBytes := slices.Concat([]byte{5, 2}, nine, []byte{8}, eight)
	ofSecondBytes := slices.Concat([]byte{172, 2, 129, 1}, seven, []byte{0})
	cases := []struct {
		most int
		x    impl.Proof
		want []byte
	}{
		{3, impl.Proof{Heads: []impl.Head{first, first, second}, Qc: ofSecond}, slices.Concat([]byte{3}, firstBytes, firstBytes, secondBytes, ofSecondBytes)},
		{3, impl.Proof{Heads: []impl.Head{second, second, first}, Qc: ofFirst}, slices.Concat([]byte{3}, secondBytes, secondBytes, firstBytes, ofFirstBytes)},
		{4, impl.Proof{Heads: []impl.Head{first, second, first, second}, Qc: ofSecond}, slices.Concat([]byte{4}, firstBytes, secondBytes, firstBytes, secondBytes, ofSecondBytes)},
		{5, impl.Proof{Heads: []impl.Head{second, second, first}, Qc: ofFirst}, slices.Concat([]byte{3}, secondBytes, secondBytes, firstBytes, ofFirstBytes)},
		{5, impl.Proof{Heads: []impl.Head{first, first, first, first, first}, Qc: ofFirst}, slices.Concat([]byte{5}, firstBytes, firstBytes, firstBytes, firstBytes, firstBytes, ofFirstBytes)},
	}
	for _, c := range cases {
		proofCodec.checkKnown(t, proofLimits(4, c.most), c.x, c.want)
	}
}

// Proofs of every number of validators have every number of headers.
func TestProofsOfEverySize(t *testing.T) {
	for n := 1; n <= impl.MaxSigners; n++ {
		for most := 3; most <= impl.MaxHeads; most++ {
			for _, x := range validProofs(proofLimits(n, most)) {
				proofCodec.checkValid(t, proofLimits(n, most), x)
			}
		}
	}
	for _, l := range someLimits {
		for _, x := range validProofs(l) {
			proofCodec.checkValid(t, l, x)
		}
	}
}

// Each number of headers meets each limit of it.
func TestProofCounts(t *testing.T) {
	for most := 3; most <= impl.MaxHeads; most++ {
		l := proofLimits(4, most)
		for _, size := range []int{0, 1, 2, 3, 4, 5, 6, 7, 8, 127, 128, 300} {
			for _, x := range []impl.Proof{proofOf(slices.Repeat([]impl.Head{headWith(1)}, size), 7, 4), proofOf(chainOf(4, max(size, 1))[:size], 7, 4)} {
				switch {
				case size >= 3 && size <= most:
					proofCodec.checkValid(t, l, x)
					continue
				case size < 3:
					proofCodec.checkNoneAt(t, l, rawProof(x), 0, impl.ErValue)
				default:
					proofCodec.checkNoneAt(t, l, rawProof(x), 0, impl.ErLong)
				}
				proofCodec.checkInvalid(t, l, x)
			}
		}
	}
}

// The headers need not be parents of each other: every order of five headers,
// one of them or none twice, is a proof with a certificate for the last one.
func TestProofsOfEveryOrder(t *testing.T) {
	l, chain := proofLimits(4, 5), chainOf(4, 5)
	eachInput([]byte{0, 1, 2, 3, 4}, 4, func(b []byte) {
		var heads []impl.Head
		for _, c := range b {
			heads = append(heads, chain[c])
		}
		x := proofOf(heads, 7, 4)
		if len(b) >= 3 {
			proofCodec.checkValid(t, l, x)
		} else {
			proofCodec.checkInvalid(t, l, x)
		}
	})
}

// A header that is not valid spoils a proof at any place. Where it is the last
// one, the certificate follows it.
func TestProofsOfOtherHeads(t *testing.T) {
	l := limitsFor(4)
	for size := 3; size <= 5; size++ {
		whole := proofWith(size)
		for place := range size {
			for _, h := range slices.Concat(otherHeads(whole.Heads[place]), oddHeads(), someHeads(4)) {
				heads := slices.Clone(whole.Heads)
				heads[place] = h
				x := impl.Proof{Heads: heads, Qc: whole.Qc}
				proofCodec.checkOk(t, l, nil, x, writtenProofOk(l, x))
				if x = proofOf(heads, 7, 4); writtenHeadOk(l, h) {
					proofCodec.checkValid(t, l, x)
				} else {
					proofCodec.checkInvalid(t, l, x)
				}
			}
		}
	}
}

// A certificate that is not valid spoils a proof also where its View and its
// Height are those of the last header.
func TestProofsOfOtherCertificates(t *testing.T) {
	l := limitsFor(4)
	for size := 3; size <= 5; size++ {
		whole := proofWith(size)
		last := whole.Heads[size-1]
		for _, q := range slices.Concat(otherQcs(whole.Qc), oddQcs(), someQcs(4), []impl.Qc{{}, qcWith(16), qcWith(1, 0), qcWith()}) {
			x := impl.Proof{Heads: whole.Heads, Qc: q}
			proofCodec.checkOk(t, l, nil, x, writtenProofOk(l, x))
			x.Qc.View, x.Qc.Height = last.View, last.Height
			if writtenQcOk(l, x.Qc) {
				proofCodec.checkValid(t, l, x)
			} else {
				proofCodec.checkInvalid(t, l, x)
			}
		}
	}
}

// View and Height of the certificate are those of one header or of two, of none,
// or near those of the last one.
func TestProofMatches(t *testing.T) {
	l := limitsFor(4)
	for size := 3; size <= 5; size++ {
		whole := proofWith(size)
		last := whole.Heads[size-1]
		views, heights := []int{0, last.View - 1, last.View + 1, last.View ^ 128, last.View ^ 1<<32, impl.MaxNum}, []int{0, last.Height - 1, last.Height + 1, last.Height ^ 128, last.Height ^ 1<<32, impl.MaxNum}
		for _, h := range whole.Heads {
			views, heights = append(views, h.View, h.Height), append(heights, h.Height, h.View)
		}
		for _, view := range views {
			for _, height := range heights {
				x := cloneProof(whole)
				x.Qc.View, x.Qc.Height = view, height
				if view == last.View && height == last.Height {
					proofCodec.checkValid(t, l, x)
					continue
				}
				proofCodec.checkInvalid(t, l, x)
				proofCodec.checkNoneAt(t, l, rawProof(x), 0, impl.ErOrder)
			}
		}
	}
}

// The certificate is for any block: it need not be that of the last header.
func TestProofsOfOtherBlocks(t *testing.T) {
	x := proofWith(3)
	last := x.Heads[2]
	for _, block := range [][]byte{goHash(72, rawHead(last)), goHash(72, rawHead(x.Heads[0])), last.Parent, last.Root, filled(32, 0), filled(32, 255)} {
		x.Qc.Block = block
		proofCodec.checkValid(t, limitsFor(4), x)
	}
	for _, block := range append(notHashes(), filled(31, 0), filled(33, 0)) {
		x.Qc.Block = block
		proofCodec.checkInvalid(t, limitsFor(4), x)
	}
}

// View and Height of the last header and of the certificate take all ints.
func TestProofNumbers(t *testing.T) {
	l := limitsFor(4)
	for _, n := range slices.Concat(edgeNumbers(), notNumbers, extremes) {
		x := bareProof(3)
		h := &x.Heads[2]
		for _, in := range [][]*int{{&h.View}, {&x.Qc.View}, {&h.View, &x.Qc.View}, {&h.Height}, {&x.Qc.Height}, {&h.Height, &x.Qc.Height}, {&h.Height, &h.Qc.Height, &x.Qc.Height}} {
			for _, at := range in {
				*at = n
			}
			proofCodec.checkOk(t, l, nil, x, writtenProofOk(l, x))
			proofCodec.checkInput(t, l, rawProof(x), 0)
		}
		x = bareProof(3)
		h = &x.Heads[2]
		h.View, h.Height, h.Qc.View, h.Qc.Height, x.Qc.View, x.Qc.Height = n, n, 0, n-1, n, n
		if n >= 1 && n <= impl.MaxNum {
			proofCodec.checkValid(t, l, x)
		} else {
			proofCodec.checkInvalid(t, l, x)
		}
	}
}

// Every part takes valid and other values together with those of all other parts.
func TestProofParts(t *testing.T) {
	right, mismatch, padded := headWith(0), headWith(1), headWith(16)
	mismatch.Qc.Height++
	last := headOver(qcFor(right, 3, 4))
	heads := []impl.Head{right, last, mismatch, padded, {}}
	certificates := []impl.Qc{{}, qcFor(right, 0, 4), qcFor(last, 3, 4), qcFor(last, 16, 5)}
	var lists [][]impl.Head
	for _, first := range heads {
		for _, second := range heads {
			for _, third := range heads {
				lists = append(lists, []impl.Head{first, second}, []impl.Head{first, second, third}, []impl.Head{third, right, second, first})
			}
		}
	}
	for _, l := range []impl.Limits{proofLimits(4, 3), proofLimits(4, 4), proofLimits(3, 4), proofLimits(4, 2), proofLimits(4, 6), {}} {
		for _, list := range append(lists, nil, []impl.Head{}) {
			for _, q := range certificates {
				x := impl.Proof{Heads: list, Qc: q}
				proofCodec.checkOk(t, l, nil, x, writtenProofOk(l, x))
				proofCodec.checkInput(t, l, rawProof(x), 0)
			}
		}
	}
}

// Each limit takes all its edges. N and Heads matter, and the others must be valid too.
func TestProofLimits(t *testing.T) {
	for _, base := range append(someLimits, limitsFor(4)) {
		for size := 2; size <= 6; size++ {
			x := proofOf(chainOf(base.N, size), 1, base.N)
			for _, f := range limitFields {
				for _, n := range f.edges() {
					l := f.with(base, n)
					proofCodec.checkOk(t, l, nil, x, writtenProofOk(l, x))
					proofCodec.checkInput(t, l, rawProof(x), 0)
					if f.name == "Heads" {
						proofCodec.checkOk(t, l, nil, x, size >= 3 && size <= n && n <= 5)
					}
				}
			}
		}
	}
	proofCodec.checkInvalid(t, impl.Limits{}, impl.Proof{})
	proofCodec.checkInvalid(t, limitsFor(4), impl.Proof{})
}

func TestProofOfWrongLimits(t *testing.T) {
	mismatch := proofWith(3)
	mismatch.Qc.View++
	few, many := proofWith(2), proofWith(6)
	inputs := [][]byte{nil, {}, {0}, {2}, {6}, {128}, {128, 0}, {3, 0}, rawProof(bareProof(3)), rawProof(bareProof(3))[:200], rawProof(mismatch), rawProof(few), rawProof(many), filled(400, 255), filled(400, 3)}
	proofCodec.checkWrongLimits(t, inputs, proofWith(3), proofWith(5), bareProof(4), mismatch, few, many, impl.Proof{})
}

func TestProofOffsets(t *testing.T) {
	proofCodec.checkOffsets(t, limitsFor(4), rawProof(proofWith(3)), rawProof(bareProof(5)), filled(400, 3), filled(400, 128))
}

func TestProofSameOfOneDifference(t *testing.T) {
	odd := []impl.Proof{{}, {Heads: []impl.Head{{}}}, {Heads: []impl.Head{{View: -7, Root: []byte{1}}, {Height: math.MinInt}}, Qc: impl.Qc{View: -1, Tags: [][]byte{nil, {}, {5}}}}, proofWith(7)}
	for _, x := range append(odd, proofWith(1), proofWith(3), proofWith(5), bareProof(4)) {
		proofCodec.checkDifferences(t, x)
	}
}

// Small proofs meet one another: every list of up to three small headers, with
// certificates that differ in one field or not at all.
func TestProofSameOfSmallProofs(t *testing.T) {
	small := []impl.Head{{}, {View: 1}, {Qc: impl.Qc{View: 1}}, {Parent: []byte{0}}}
	var list []impl.Proof
	eachInput([]byte{0, 1, 2, 3}, 3, func(b []byte) {
		var heads []impl.Head
		for _, c := range b {
			heads = append(heads, small[c])
		}
		for _, q := range []impl.Qc{{}, {View: 1}, {Height: 1}, {Block: []byte{0}}, {Bits: []byte{}, Tags: [][]byte{}}} {
			list = append(list, impl.Proof{Heads: heads, Qc: q})
		}
	})
	proofCodec.checkEachPair(t, list)
}

func TestProofOfNil(t *testing.T) {
	l, x := limitsFor(4), bareProof(3)
	for _, b := range [][]byte{nil, {}} {
		proofCodec.checkOk(t, l, b, x, true)
		proofCodec.checkNoneAt(t, l, b, 0, impl.ErShort)
	}
	for _, heads := range [][]impl.Head{nil, {}, make([]impl.Head, 0, 3)} {
		proofCodec.checkInvalid(t, l, impl.Proof{Heads: heads, Qc: x.Qc})
		proofCodec.checkSame(t, impl.Proof{Heads: heads}, impl.Proof{}, true)
		proofCodec.checkSame(t, impl.Proof{Heads: heads}, impl.Proof{Heads: []impl.Head{{}}}, false)
		proofCodec.checkSame(t, impl.Proof{Heads: heads, Qc: x.Qc}, impl.Proof{Qc: cloneQc(x.Qc)}, true)
	}
	for _, tags := range [][][]byte{nil, {}} {
		y := bareProof(3)
		for i := range y.Heads {
			y.Heads[i].Qc.Tags = tags
		}
		y.Qc.Tags = tags
		proofCodec.checkValid(t, l, y)
		proofCodec.checkSame(t, x, y, true)
	}
	for _, none := range [][]byte{nil, {}} {
		y := impl.Proof{Heads: slices.Repeat([]impl.Head{{Parent: none, Root: none, Qc: impl.Qc{Block: none}}}, 3), Qc: impl.Qc{Bits: none}}
		proofCodec.checkInvalid(t, l, y)
		proofCodec.checkSame(t, y, impl.Proof{Heads: make([]impl.Head, 3)}, true)
	}
}
