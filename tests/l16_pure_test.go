package tests

import (
	"bytes"
	"math"
	"slices"
	"sync"
	"testing"

	"loop.example/g00790/impl"
)

// Chapter 1 for chapter 17: arguments and their spare capacity stay unchanged (b,
// the list of headers and all parts of each, those of the certificate, Tx, the
// list of hashes and each of them), results are new memory, and no function panics.

// scribbledHead replaces the headers of a list that is overwritten.
func scribbledHead(n int) impl.Head {
	return impl.Head{View: n, Height: n, Proposer: n, Parent: []byte{byte(n)}, Root: []byte{byte(n)}, Qc: impl.Qc{View: n, Tags: [][]byte{{byte(n)}}}}
}

func holdProof(x impl.Proof) held[impl.Proof] {
	heads, certificate := headCodec.holdAll(x.Heads, scribbledHead(-spareByte)), holdQc(x.Qc)
	return held[impl.Proof]{impl.Proof{Heads: heads.given, Qc: certificate.given}, func(t *testing.T, what string) {
		t.Helper()
		heads.check(t, what+", Heads")
		certificate.check(t, what+", Qc")
	}}
}

// partsOfProof are all byte strings of a proof.
func partsOfProof(x impl.Proof) [][]byte {
	return append(headCodec.partsOfAll(x.Heads), partsOfQc(x.Qc)...)
}

// overwriteProof changes everything that belongs to a proof.
func overwriteProof(x impl.Proof) {
	headCodec.ruinAll(x.Heads, scribbledHead(scribble))
	overwriteQc(x.Qc)
}

// oddProofs are proofs that are not valid for limitsFor(4).
func oddProofs() []impl.Proof {
	list := []impl.Proof{{}, {Heads: []impl.Head{}}, {Heads: make([]impl.Head, 3)}, proofWith(1), proofWith(2), proofWith(6), bareProof(7)}
	for i, x := range otherProofs(proofOf([]impl.Head{headWith(0), headWith(1), headWith(0)}, 1, 4)) {
		// The changed bytes of one part resemble each other: every eleventh is enough.
		if i%11 == 0 && !writtenProofOk(limitsFor(4), x) {
			list = append(list, x)
		}
	}
	return list
}

// pureProofs are valid proofs.
func pureProofs() []impl.Proof {
	return []impl.Proof{bareProof(3), proofWith(3), proofWith(5), proofOf(slices.Repeat([]impl.Head{oneHead()}, 4), 15, 4)}
}

// pureProofInputs are encodings of proofs, and bytes that are none.
func pureProofInputs() [][]byte {
	mismatch := proofWith(3)
	mismatch.Qc.View++
	list := [][]byte{nil, {}, {128}, {128, 0}, {2}, {3}, {6}, filled(400, 0), filled(400, 3), filled(400, 255), rawProof(mismatch), rawProof(proofWith(2)), rawProof(bareProof(6))}
	for _, x := range pureProofs() {
		b := rawProof(x)
		list = append(list, b, b[:len(b)-1], b[:len(b)-33], b[:len(b)/2], append(bytes.Clone(b), b...), append([]byte{0}, b...))
	}
	return list
}

func holdIncl(x impl.Incl) held[impl.Incl] {
	given, want, path := x, cloneIncl(x), holdList(x.Path)
	given.Tx, given.Path = roomy(x.Tx), path.given
	return held[impl.Incl]{given, func(t *testing.T, what string) {
		t.Helper()
		checkRoomy(t, what+", Tx", given.Tx, want.Tx)
		path.check(t, what+", Path")
	}}
}

// partsOfIncl are all byte strings of a transaction proof.
func partsOfIncl(x impl.Incl) [][]byte { return append([][]byte{x.Tx}, x.Path...) }

// overwriteIncl changes everything that belongs to a transaction proof.
func overwriteIncl(x impl.Incl) {
	overwriteBytes(x.Tx)
	overwriteList(x.Path)
}

// oddIncls are transaction proofs that are not valid for limitsFor(4).
func oddIncls() []impl.Incl {
	list := []impl.Incl{{}, {Tx: []byte{}, Path: [][]byte{}}, {N: 1, Path: [][]byte{nil, {}, {1}}}, inclOf(5, 1, []byte{1}), inclOf(8, 7, filled(40, 1)), inclOf(4, 4, nil), inclOf(0, 0, nil), inclOf(4, 1, filled(11, 1)), inclOf(300, 5, nil)}
	for _, x := range otherIncls(oneIncl()) {
		if !writtenInclOk(limitsFor(4), x) {
			list = append(list, x)
		}
	}
	return list
}

// pureIncls are valid transaction proofs.
func pureIncls() []impl.Incl {
	ones := filled(32, 255)
	return []impl.Incl{oneIncl(), inclOf(1, 0, nil), inclOf(1, 0, []byte{1}), inclOf(4, 3, filled(10, 9)), {Height: impl.MaxNum, N: 3, Tx: ones[:10], Path: [][]byte{ones, ones}}}
}

// pureInclInputs are encodings of transaction proofs, and bytes that are none.
func pureInclInputs() [][]byte {
	list := [][]byte{nil, {}, {128}, {128, 0}, {7, 0}, {7, 5}, {7, 3, 3}, {7, 3, 2, 11}, filled(40, 0), filled(100, 1), filled(100, 255), rawIncl(inclOf(5, 1, nil)), rawIncl(inclOf(4, 1, filled(11, 1)))}
	for _, x := range pureIncls() {
		b := rawIncl(x)
		list = append(list, b, b[:len(b)-1], b[:len(b)/2], append(bytes.Clone(b), b...), append([]byte{0}, b...))
	}
	return list
}

func TestPutProofPure(t *testing.T) {
	proofCodec.checkPutPure(t, append(oddProofs(), pureProofs()...))
}

func TestPutInclPure(t *testing.T) { inclCodec.checkPutPure(t, append(oddIncls(), pureIncls()...)) }

// The slice of PutProof is its own: also where b has room for all of it, and where
// the parts of the headers and of the certificate lie in b, behind b, or in one another.
func TestPutProofOfSharedMemory(t *testing.T) {
	all := mixedBytes(800, 3)
	all[40], all[72] = 3, 3
	hash := all[40:72]
	tags := [][]byte{hash, all[41:73]}
	h := impl.Head{View: 300, Height: 3, Parent: hash, Root: all[200:232], Qc: impl.Qc{View: 299, Height: 2, Block: hash, Bits: hash[:1], Tags: tags}}
	other := h
	other.Parent, other.Qc.Block, other.Root, other.Qc.Bits = all[700:732], all[700:732], all[768:], all[72:73]
	for _, heads := range [][]impl.Head{{h, h, h}, {h, other, h}, {other, h, other, other}} {
		q := impl.Qc{View: 300, Height: 3, Block: all[0:32], Bits: hash[:1], Tags: tags}
		proofCodec.checkPutShared(t, all, []int{0, 1, 10, 40, 72, 210, 731, 799, 800}, impl.Proof{Heads: heads, Qc: q})
	}
}

func TestPutInclOfSharedMemory(t *testing.T) {
	all := mixedBytes(200, 3)
	hash := all[40:72]
	for _, x := range []impl.Incl{
		{N: 4, Tx: hash[:10], Path: [][]byte{hash, hash}},
		{N: 3, At: 1, Tx: all[0:10], Path: [][]byte{all[1:33], all[168:]}},
		{N: 2, At: 1, Tx: all[190:], Path: [][]byte{all[5:37]}},
		{N: 1, Tx: all[37:45]},
	} {
		x.Height = 300
		inclCodec.checkPutShared(t, all, []int{0, 1, 10, 40, 72, 150, 199, 200}, x)
	}
}

func TestPutProofTwice(t *testing.T) {
	second := proofOf([]impl.Head{headWith(1), headWith(0), headWith(10)}, 2, 4)
	proofCodec.checkPutTwice(t, bareProof(3), second)
}

func TestPutInclTwice(t *testing.T) {
	inclCodec.checkPutTwice(t, oneIncl(), inclOf(3, 2, []byte{9, 9, 9}))
}

func TestGetProofPure(t *testing.T) { proofCodec.checkGetPure(t, pureProofInputs()) }

func TestGetInclPure(t *testing.T) { inclCodec.checkGetPure(t, pureInclInputs()) }

func TestProofQuestionsPure(t *testing.T) {
	proofCodec.checkQuestionsPure(t, proofWith(3), append(oddProofs(), pureProofs()...))
}

func TestInclQuestionsPure(t *testing.T) {
	inclCodec.checkQuestionsPure(t, oneIncl(), append(oddIncls(), pureIncls()...))
}

// Proofs may share their lists and all their memory with one another.
func TestQuestionsAboutSharedProofs(t *testing.T) {
	l, whole := limitsFor(4), proofWith(5)
	for size := range 6 {
		x := proofOf(whole.Heads[:size], 7, 4)
		proofCodec.checkOk(t, l, nil, x, size >= 3)
		proofCodec.checkSame(t, x, proofOf(whole.Heads[:size], 7, 4), true)
		proofCodec.checkSame(t, x, impl.Proof{Heads: whole.Heads, Qc: x.Qc}, size == 5)
	}
	proofCodec.checkSame(t, whole, proofWith(5), true)
}

func TestProofResultsAreNew(t *testing.T) {
	for _, x := range pureProofs() {
		proofCodec.checkGetNew(t, limitsFor(4), x)
	}
	for _, x := range pureIncls() {
		inclCodec.checkGetNew(t, limitsFor(4), x)
	}
}

// What is appended to a list of a proof does not reach a copy of it.
func TestPartsAppendedToCopiesOfProofs(t *testing.T) {
	one, two := scribbledHead(1), scribbledHead(2)
	for _, x := range pureProofs() {
		read, _, _ := impl.GetProof(limitsFor(4), rawProof(x), 0)
		first, second := append(read.Heads, one), append(read.Heads, two)
		if !headCodec.sameAll(first, append(slices.Clone(x.Heads), one)) || !headCodec.sameAll(second, append(slices.Clone(x.Heads), two)) {
			t.Errorf("the headers of %+v with one more are %v and %v", x, first, second)
		}
	}
	for _, x := range pureIncls() {
		read, _, _ := impl.GetIncl(limitsFor(4), rawIncl(x), 0)
		first, second := append(read.Path, []byte{1}), append(read.Path, []byte{2})
		if !sameList(first, append(slices.Clone(x.Path), []byte{1})) || !sameList(second, append(slices.Clone(x.Path), []byte{2})) {
			t.Errorf("the path of %+v with one more hash is %v and %v", x, first, second)
		}
	}
}

// Every function takes all ints, whatever the other arguments are.
func TestProofsOfExtremes(t *testing.T) {
	for i, n := range extremes {
		for _, m := range extremes {
			h := headOver(impl.Qc{View: n, Height: m, Block: goHash(7), Bits: []byte{0}})
			proofs := []impl.Proof{proofOf([]impl.Head{h, h, h}, 0, 4), {Heads: []impl.Head{headWith(0), headWith(0), h}, Qc: impl.Qc{View: n, Height: m}}, {Heads: make([]impl.Head, i)}, bareProof(3)}
			incls := []impl.Incl{{Height: n, N: m, At: n, Tx: filled(i, 1)}, {Height: m, N: n, At: m, Path: hashesFor(i)}, {Height: n, N: 4, At: m, Path: hashesFor(2)}, {N: n, At: n - 1}, inclOf(n, m, nil), oneIncl()}
			for _, l := range []impl.Limits{limitsFor(8), {N: n, Tx: m, Txs: n, Frame: m, Heads: n}, proofLimits(4, n), {N: m, Tx: 10, Txs: 4, Frame: 1, Heads: 3}, {N: 4, Tx: n, Txs: m, Frame: 1, Heads: 3}} {
				for _, x := range proofs {
					proofCodec.checkOk(t, l, nil, x, writtenProofOk(l, x))
					proofCodec.checkSame(t, x, cloneProof(x), true)
				}
				for _, x := range incls {
					inclCodec.checkOk(t, l, nil, x, writtenInclOk(l, x))
					inclCodec.checkSame(t, x, cloneIncl(x), true)
				}
			}
		}
	}
	proofCodec.checkExtremes(t, pureProofInputs())
	inclCodec.checkExtremes(t, pureInclInputs())
}

// A call in between, also a refused one, leaves nothing behind.
func TestProofsKeepNoState(t *testing.T) {
	l, x, y := limitsFor(4), bareProof(3), oneIncl()
	for i, b := range append(pureProofInputs(), pureInclInputs()...) {
		impl.GetProof(limitsFor(i), b, 0)
		impl.GetProof(l, b, 1)
		impl.GetProof(impl.Limits{}, b, 1)
		impl.PutProof(limitsFor(i), b, proofWith(i))
		impl.PutProof(l, b, impl.Proof{})
		impl.ProofOk(impl.Limits{}, x)
		impl.ProofSame(x, impl.Proof{})
		impl.GetIncl(limitsFor(i), b, 0)
		impl.GetIncl(mostFor(4), b, 1)
		impl.GetIncl(impl.Limits{}, b, 1)
		impl.PutIncl(mostFor(4), b, inclOf(8, i, b))
		impl.PutIncl(l, b, impl.Incl{N: -i, At: math.MinInt})
		impl.InclOk(impl.Limits{}, y)
		impl.InclSame(y, impl.Incl{})
		proofCodec.checkValid(t, l, x)
		proofCodec.checkNoneAt(t, l, rawProof(x)[:150], 0, impl.ErShort)
		inclCodec.checkValid(t, l, y)
		inclCodec.checkNoneAt(t, l, rawIncl(y)[:50], 0, impl.ErShort)
	}
}

func TestProofsAtTheSameTime(t *testing.T) {
	var group sync.WaitGroup
	all, proof, incl := make([]byte, 3, 500), bareProof(4), oneIncl()
	for n := 1; n <= impl.MaxSigners; n++ {
		group.Go(func() {
			for _, x := range validProofs(limitsFor(n)) {
				proofCodec.checkOk(t, limitsFor(n), all, x, true)
				proofCodec.checkAt(t, limitsFor(n), rawProof(x), 0, x, len(rawProof(x)), impl.ErOk)
				proofCodec.checkValid(t, limitsFor(4), proof)
			}
			for _, x := range validIncls(limitsFor(n)) {
				inclCodec.checkOk(t, limitsFor(n), all, x, true)
				inclCodec.checkAt(t, limitsFor(n), rawIncl(x), 0, x, len(rawIncl(x)), impl.ErOk)
				inclCodec.checkValid(t, limitsFor(4), incl)
			}
		})
	}
	group.Wait()
}
