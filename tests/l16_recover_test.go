package tests

import (
	"slices"
	"testing"

	"loop.example/g00790/impl"
)

// P4 for chapter 17: a commit proof is recovered from its encoding, and every
// input is the encoding of one valid proof or has its first error. Transaction
// proofs follow in l16_incl_recover_test.go.

func TestProofsRecovered(t *testing.T) {
	for n := 1; n <= impl.MaxSigners; n++ {
		for most := 3; most <= impl.MaxHeads; most++ {
			for _, x := range validProofs(proofLimits(n, most)) {
				proofCodec.checkRecovered(t, proofLimits(n, most), x)
			}
		}
	}
	for _, l := range someLimits {
		for _, x := range validProofs(l) {
			proofCodec.checkRecovered(t, l, x)
		}
	}
}

func TestNumbersOfProofsRecovered(t *testing.T) {
	for _, n := range someNumbers() {
		if n < 1 {
			continue
		}
		x := bareProof(3)
		last := &x.Heads[2]
		last.View, x.Qc.View, last.Qc.View = n, n, n-1
		proofCodec.checkRecovered(t, limitsFor(4), x)
		last.Height, x.Qc.Height, last.Qc.Height = n, n, n-1
		proofCodec.checkRecovered(t, limitsFor(4), x)
	}
}

func TestRowOfProofsRecovered(t *testing.T) {
	for _, n := range []int{1, 4, 10} {
		for most := 3; most <= impl.MaxHeads; most++ {
			proofCodec.checkRow(t, proofLimits(n, most), validProofs(proofLimits(n, most)))
		}
	}
}

// The longest proofs of the most validators are recovered.
func TestLongestProofsRecovered(t *testing.T) {
	l := proofLimits(10, 5)
	x := proofOf(chainOf(10, 5), 1023, 10)
	for i := range x.Heads {
		h := &x.Heads[i]
		h.Qc.Bits, h.Qc.Tags = []byte{255, 3}, tagsFor(10)
		h.View, h.Height, h.Qc.View, h.Qc.Height = impl.MaxNum, impl.MaxNum, impl.MaxNum-1, impl.MaxNum-1
	}
	x.Qc.View, x.Qc.Height = impl.MaxNum, impl.MaxNum
	proofCodec.checkValid(t, l, x)
	proofCodec.checkRecovered(t, l, x)
	proofCodec.checkCut(t, l, x)
}

func TestEncodingsOfProofsDiffer(t *testing.T) {
	l := limitsFor(4)
	for _, x := range []impl.Proof{bareProof(3), bareProof(4), proofWith(3), proofWith(5)} {
		proofCodec.checkOtherEncodings(t, l, x, validProofs(l))
	}
}

func TestCutProofs(t *testing.T) {
	for n := 1; n <= impl.MaxSigners; n++ {
		for size := 3; size <= 5; size++ {
			proofCodec.checkCut(t, proofLimits(n, size), proofOf(chainOf(n, size), 1, n))
		}
	}
	for _, x := range validProofs(proofLimits(1, 3)) {
		proofCodec.checkCut(t, limitsFor(1), x)
	}
}

// The number of headers, each number of each header, and those of the certificate
// are wrong or cut off.
func TestWrongNumbersOfProofs(t *testing.T) {
	places := []int{0, headPart(3), headPart(3) + 1}
	for i := range 3 {
		at := headPart(i)
		places = append(places, at, at+1, at+2, at+5, at+6)
	}
	eachWrongNumber(partsOfRawProof(bareProof(3)), places, func(b []byte, code int) {
		t.Helper()
		proofCodec.checkNoneAt(t, limitsFor(4), b, 0, code)
	})
}

// Too small a number of headers is found before any of them is read: as many
// stand behind it, or more, or none.
func TestTooFewHeads(t *testing.T) {
	for most := 3; most <= impl.MaxHeads; most++ {
		for count := range 3 {
			for _, x := range []impl.Proof{proofWith(count), bareProof(3), proofWith(most), bareProof(6)} {
				b, end := withPart(partsOfRawProof(x), 0, varint(count))
				proofCodec.checkCodeFrom(t, proofLimits(4, most), b, end, impl.ErValue)
			}
		}
	}
}

// Too large a number of headers is found before any of them is read.
func TestTooManyHeads(t *testing.T) {
	for most := 3; most <= impl.MaxHeads; most++ {
		for _, count := range []int{most + 1, most + 2, 6, 100, 127, 128, 255, 256, 1<<8 + most, 1<<32 + most, 1 << 56, impl.MaxNum - 1, impl.MaxNum} {
			for _, x := range []impl.Proof{bareProof(min(count, 9)), proofWith(most)} {
				b, end := withPart(partsOfRawProof(x), 0, varint(count))
				proofCodec.checkCodeFrom(t, proofLimits(4, most), b, end, impl.ErLong)
			}
		}
	}
}

// There are fewer headers than their number says, or more.
func TestOtherNumbersOfHeads(t *testing.T) {
	l := limitsFor(4)
	for size := 3; size <= 5; size++ {
		for count := 3; count <= 5; count++ {
			for _, x := range []impl.Proof{bareProof(size), proofWith(size)} {
				b, _ := withPart(partsOfRawProof(x), 0, varint(count))
				proofCodec.checkAccepted(t, l, b, 0)
				if _, _, er := impl.GetProof(l, b, 0); (er == impl.ErOk) != (size == count) {
					t.Errorf("%d headers where the number is %d: %d", size, count, er)
				}
			}
		}
	}
}

// What is wrong with a header is found before anything behind it is read; it is
// the first one, a middle one or the last one.
func TestWrongHeadersOfProofs(t *testing.T) {
	for n := 1; n <= impl.MaxSigners; n++ {
		for size := 3; size <= 5; size++ {
			l, x := proofLimits(n, size), proofOf(chainOf(n, size), 1, n)
			for i := range size {
				wrong := func(place int, part []byte, code int) {
					t.Helper()
					b, end := withPart(partsOfRawProof(x), headPart(i)+place, part)
					proofCodec.checkCodeFrom(t, l, b, end, code)
				}
				wrong(1, []byte{0}, impl.ErValue)
				wrong(2, varint(n), impl.ErValue)
				if n%8 > 0 {
					wrong(8, bitmapOf(1<<n, 8*((n+7)/8)), impl.ErPad)
				}
				y := cloneProof(x)
				y.Heads[i].Qc.Height = y.Heads[i].Height
				proofCodec.checkCodeFrom(t, l, rawProof(y), len(slices.Concat(partsOfRawProof(y)[:headPart(i+1)]...)), impl.ErOrder)
			}
		}
	}
}

// A proof has the first error of its first header that is not valid.
func TestOtherHeadersOfProofs(t *testing.T) {
	l, whole := limitsFor(4), proofWith(3)
	heads := slices.Concat(oddHeads(), otherHeads(whole.Heads[0]), otherHeads(headWith(0)))
	for place := range 3 {
		for _, h := range heads {
			x := cloneProof(whole)
			x.Heads[place] = h
			for _, b := range [][]byte{rawProof(x), rawProof(proofOf(x.Heads, 7, 4))} {
				proofCodec.checkAccepted(t, l, b, 0)
				proofCodec.checkAccepted(t, l, slices.Concat(b, filled(300, 1)), 0)
			}
		}
	}
}

// A bit without a signer is found in the certificate before any tag is read, and
// before the certificate is compared with the last header.
func TestWrongCertificatesOfProofs(t *testing.T) {
	for n := 1; n <= impl.MaxSigners; n++ {
		for _, bits := range paddedBits(n) {
			x := proofOf(chainOf(n, 3), 1, n)
			x.Qc.Bits, x.Qc.Tags = bits, tagsFor(len(setBits(bits)))
			for _, x.Qc.View = range []int{x.Qc.View, 0} {
				end := len(rawProof(x)) - 32*len(x.Qc.Tags)
				proofCodec.checkCodeFrom(t, limitsFor(n), rawProof(x), end, impl.ErPad)
			}
		}
	}
}

// A certificate for another view or another height is found when all parts are read.
func TestMismatchesOfProofs(t *testing.T) {
	for n := 1; n <= impl.MaxSigners; n++ {
		for size := 3; size <= 5; size++ {
			for _, set := range []int{0, 1, 1<<n - 1} {
				for place := range size - 1 {
					other := chainOf(n, size)[place]
					for ways := 1; ways < 4; ways++ {
						x := proofOf(chainOf(n, size), set, n)
						if ways&1 > 0 {
							x.Qc.View = other.View
						}
						if ways&2 > 0 {
							x.Qc.Height = other.Height
						}
						proofCodec.checkCodeFrom(t, proofLimits(n, size), rawProof(x), len(rawProof(x)), impl.ErOrder)
					}
				}
			}
		}
	}
}

// Two parts are wrong, and the first one has its code.
func TestFirstErrorOfProofs(t *testing.T) {
	h, child := headWith(0), childOf(headWith(0), 1, 4)
	noMatch, noHeight, noProposer, padded := headWith(0), headWith(0), headWith(0), headWith(16)
	noMatch.Qc.Height, noHeight.Height, noProposer.Proposer = 7, 0, 4
	right, last, wrong := rawHead(h), rawHead(child), []byte{128, 0}
	order, value, proposer, pad := rawHead(noMatch), rawHead(noHeight), rawHead(noProposer), rawHead(padded)
	certificate, of, ofPadded := rawQc(qcFor(h, 1, 4)), rawQc(qcFor(child, 1, 4)), rawQc(qcFor(h, 16, 5))
	proofCodec.checkCodes(t, proofLimits(4, 4), []partsCase{
		{[][]byte{{3}, right, right, right, certificate}, impl.ErOk},
		{[][]byte{{3}, right, right, right, certificate, wrong}, impl.ErOk},
		{[][]byte{{3}, right, right, last, of}, impl.ErOk},
		{[][]byte{{4}, right, right, right, last, of}, impl.ErOk},
		{[][]byte{{3}, right, right, last, certificate}, impl.ErOrder},
		{[][]byte{{3}, right, right, last, certificate, wrong}, impl.ErOrder},
		{[][]byte{{3}, last, right, right, of}, impl.ErOrder},
		{[][]byte{{4}, right, right, right, last, certificate}, impl.ErOrder},
		{[][]byte{{4}, right, right, right}, impl.ErShort},
		{[][]byte{{4}, right, right, right, last}, impl.ErShort},
		{[][]byte{wrong, right, right, right, certificate}, impl.ErVar},
		{[][]byte{{131, 0}, right, right, right, certificate}, impl.ErVar},
		{[][]byte{{131}}, impl.ErShort},
		{[][]byte{{128}}, impl.ErShort},
		{[][]byte{{131, 1}, right}, impl.ErLong},
		{[][]byte{{0}, wrong}, impl.ErValue},
		{[][]byte{{0}}, impl.ErValue},
		{[][]byte{{1}, right, certificate}, impl.ErValue},
		{[][]byte{{2}}, impl.ErValue},
		{[][]byte{{2}, right, right, certificate}, impl.ErValue},
		{[][]byte{{2}, order, wrong}, impl.ErValue},
		{[][]byte{{5}}, impl.ErLong},
		{[][]byte{{5}, wrong}, impl.ErLong},
		{[][]byte{{5}, right, right, right, right, right, certificate}, impl.ErLong},
		{[][]byte{{5}, value}, impl.ErLong},
		{[][]byte{{3}}, impl.ErShort},
		{[][]byte{{3}, wrong}, impl.ErVar},
		{[][]byte{{3}, order, wrong}, impl.ErOrder},
		{[][]byte{{3}, order, value, pad}, impl.ErOrder},
		{[][]byte{{3}, order}, impl.ErOrder},
		{[][]byte{{3}, value, order}, impl.ErValue},
		{[][]byte{{3}, proposer, order}, impl.ErValue},
		{[][]byte{{3}, pad, order}, impl.ErPad},
		{[][]byte{{3}, pad[:len(pad)-32], wrong}, impl.ErPad},
		{[][]byte{{3}, right, wrong}, impl.ErVar},
		{[][]byte{{3}, right}, impl.ErShort},
		{[][]byte{{3}, right, value, wrong}, impl.ErValue},
		{[][]byte{{3}, right, pad, value}, impl.ErPad},
		{[][]byte{{3}, right, order, certificate}, impl.ErOrder},
		{[][]byte{{3}, right, right}, impl.ErShort},
		{[][]byte{{3}, right, right, pad, of}, impl.ErPad},
		{[][]byte{{3}, right, right, order, of}, impl.ErOrder},
		{[][]byte{{3}, right, right, value, ofPadded}, impl.ErValue},
		{[][]byte{{3}, right, right, right}, impl.ErShort},
		{[][]byte{{3}, right, right, right, wrong}, impl.ErVar},
		{[][]byte{{3}, right, right, right, {5}, wrong}, impl.ErVar},
		{[][]byte{{3}, right, right, right, {5, 9}, filled(31, 1)}, impl.ErShort},
		{[][]byte{{3}, right, right, right, {5, 9}, filled(32, 1)}, impl.ErShort},
		{[][]byte{{3}, right, right, right, {5, 9}, filled(32, 1), {16}}, impl.ErPad},
		{[][]byte{{3}, right, right, right, {5, 9}, filled(32, 1), {1}, filled(31, 1)}, impl.ErShort},
		{[][]byte{{3}, right, right, right, {5, 9}, filled(32, 1), {1}, filled(32, 1)}, impl.ErOrder},
		{[][]byte{{3}, right, right, right, {5, 9}, filled(32, 1), {0}}, impl.ErOrder},
		{[][]byte{{3}, right, right, right, ofPadded}, impl.ErPad},
		{[][]byte{{3}, right, right, last, ofPadded}, impl.ErPad},
		{[][]byte{{3}, right, right, last, of[:len(of)-1]}, impl.ErShort},
		{[][]byte{{3}, right, right, last, certificate[:len(certificate)-1]}, impl.ErShort},
	})
}

// A proof that some limits allow is read with others.
func TestProofOfOtherLimits(t *testing.T) {
	for size := 3; size <= 5; size++ {
		for most := 3; most <= 5; most++ {
			x := proofWith(size)
			proofCodec.checkAccepted(t, proofLimits(4, most), rawProof(x), 0)
			if size <= most {
				proofCodec.checkAt(t, proofLimits(4, most), rawProof(x), 0, x, len(rawProof(x)), impl.ErOk)
			} else {
				proofCodec.checkNoneAt(t, proofLimits(4, most), rawProof(x), 0, impl.ErLong)
			}
		}
	}
	for from := 1; from <= impl.MaxSigners; from++ {
		for to := 1; to <= impl.MaxSigners; to++ {
			for _, set := range []int{0, 1, 1<<from - 1} {
				x := proofOf(slices.Repeat([]impl.Head{headOfSet(set, from)}, 3), set, from)
				proofCodec.checkAccepted(t, limitsFor(to), rawProof(x), 0)
				if (from > 8) == (to > 8) && set < 1<<to {
					proofCodec.checkAt(t, limitsFor(to), rawProof(x), 0, x, len(rawProof(x)), impl.ErOk)
				}
			}
		}
	}
}

func TestChangedBytesOfProofs(t *testing.T) {
	x := proofOf([]impl.Head{headWith(0), headWith(2), headWith(0)}, 1, 4)
	proofCodec.checkChangedBytes(t, limitsFor(4), x)
}

func TestShiftedBytesOfProofs(t *testing.T) {
	// A shifted byte can leave a header whole: all bytes of the hashes are 1.
	same := headOver(impl.Qc{View: 1, Block: filled(32, 1), Bits: []byte{0}})
	same.Root = same.Parent
	ones := proofOf([]impl.Head{same, same, same}, 0, 1)
	ones.Qc.Block = same.Parent
	for _, x := range []impl.Proof{ones, bareProof(3)} {
		proofCodec.checkShiftedBytes(t, limitsFor(4), x, 0, 1, 3, 128)
	}
}

// Short strings stand for the number of headers, and for View and Height of the
// certificate and its bitmap.
func TestProofInputs(t *testing.T) {
	accepted := 0
	behind := rawProof(bareProof(4))[1:]
	small := headOver(impl.Qc{View: 1, Height: 2, Block: filled(32, 1), Bits: []byte{0}})
	heads := append([]byte{3}, slices.Repeat(rawHead(small), 3)...)
	eachInput([]byte{0, 1, 2, 3, 4, 5, 6, 127, 128, 129, 255}, 3, func(b []byte) {
		for most := 3; most <= 5; most++ {
			proofCodec.checkAccepted(t, proofLimits(4, most), slices.Concat(b, behind), 0)
			proofCodec.checkAccepted(t, proofLimits(4, most), slices.Concat(b, behind[:150]), 0)
			proofCodec.checkAccepted(t, proofLimits(4, most), slices.Concat(b, []byte{4}, behind, b), len(b))
		}
		input := slices.Concat(heads, b, filled(32, 1), []byte{0})
		proofCodec.checkAccepted(t, limitsFor(4), input, 0)
		if _, next, er := impl.GetProof(limitsFor(4), input, 0); er == impl.ErOk && next == len(input) {
			accepted++
		}
		for _, n := range []int{1, 4, 9} {
			proofCodec.checkAccepted(t, limitsFor(n), slices.Concat(heads, []byte{2, 3}, filled(32, 1), b, filled(32, 1)), 0)
		}
	})
	// One of the strings is 2, 3: the View and the Height of the last header.
	if accepted != 1 {
		t.Errorf("%d inputs behind the headers are accepted", accepted)
	}
}
