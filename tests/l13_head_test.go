package tests

import (
	"bytes"
	"math"
	"slices"
	"testing"

	"loop.example/g00790/impl"
)

// P12 for chapter 14: every function returns what the chapter specifies. The
// tests of HeadHash and Links stand in l13_links_test.go.

// headNumbers and headBytes are the fields of a header beside its certificate;
// of each a test can change one alone.
var headNumbers = map[string]func(h *impl.Head) *int{
	"View":     func(h *impl.Head) *int { return &h.View },
	"Height":   func(h *impl.Head) *int { return &h.Height },
	"Proposer": func(h *impl.Head) *int { return &h.Proposer },
}

var headBytes = map[string]func(h *impl.Head) *[]byte{
	"Parent": func(h *impl.Head) *[]byte { return &h.Parent },
	"Root":   func(h *impl.Head) *[]byte { return &h.Root },
}

// headOver returns a header whose certificate is q, one view and one height later.
func headOver(q impl.Qc) impl.Head {
	return impl.Head{View: q.View + 1, Height: q.Height + 1, Parent: bytes.Clone(q.Block), Root: goHash(8), Qc: q}
}

func headWith(bits ...byte) impl.Head { return headOver(qcWith(bits...)) }

func headOfSet(set, n int) impl.Head { return headOver(qcOfSet(set, n)) }

// oneHead returns a header of four validators.
func oneHead() impl.Head {
	h := headOver(oneQc())
	h.Proposer = 3
	return h
}

func cloneHead(h impl.Head) impl.Head {
	h.Parent, h.Root, h.Qc = bytes.Clone(h.Parent), bytes.Clone(h.Root), cloneQc(h.Qc)
	return h
}

// someHeads are valid headers of n validators, whose certificates have no
// signer, one, some and all.
func someHeads(n int) []impl.Head {
	var list []impl.Head
	roots := [][]byte{filled(32, 0), goHash(2), filled(32, 255), mixedBytes(32, 13)}
	numbers := edgeNumbers()[1:]
	for i, q := range someQcs(n) {
		view, height := numbers[i%len(numbers)], numbers[i*7%len(numbers)]
		q.View, q.Height = []int{view - 1, view / 2, 0}[i%3], height-1
		h := headOver(q)
		h.View, h.Proposer, h.Root = view, i%n, roots[i%len(roots)]
		list = append(list, h)
	}
	return list
}

// writtenMatch asks for the three things of a certificate that matches.
func writtenMatch(h impl.Head) bool {
	return h.Qc.View < h.View && h.Qc.Height == h.Height-1 && bytes.Equal(h.Qc.Block, h.Parent)
}

func writtenHeadOk(l impl.Limits, h impl.Head) bool {
	numbers := h.View >= 0 && h.View <= 1152921504606846975 && h.Height >= 1 && h.Height <= 1152921504606846975
	parts := h.Proposer >= 0 && h.Proposer <= l.N-1 && len(h.Parent) == 32 && len(h.Root) == 32
	return writtenLimitsOk(l) && numbers && parts && writtenQcOk(l, h.Qc) && writtenMatch(h)
}

func writtenHeadSame(a, b impl.Head) bool {
	numbers := a.View == b.View && a.Height == b.Height && a.Proposer == b.Proposer
	return numbers && bytes.Equal(a.Parent, b.Parent) && bytes.Equal(a.Root, b.Root) && writtenQcSame(a.Qc, b.Qc)
}

// partsOfRawHead are the encodings of all parts of a header, those of its
// certificate among them.
func partsOfRawHead(h impl.Head) [][]byte {
	parts := [][]byte{varint(h.View), varint(h.Height), varint(h.Proposer), h.Parent, h.Root}
	return append(parts, partsOfRawQc(h.Qc)...)
}

// rawHead puts the parts of a header together, valid or not.
func rawHead(h impl.Head) []byte { return slices.Concat(partsOfRawHead(h)...) }

// writtenGetHead names the parts one by one, as the chapter does.
func writtenGetHead(l impl.Limits, b []byte, at int) (impl.Head, int, int) {
	none := impl.Head{}
	if !writtenLimitsOk(l) {
		return none, 0, impl.ErValue
	}
	view, next, er := impl.GetVar(b, at)
	if er != impl.ErOk {
		return none, 0, er
	}
	height, next, er := impl.GetVar(b, next)
	if er != impl.ErOk {
		return none, 0, er
	}
	if height == 0 {
		return none, 0, impl.ErValue
	}
	proposer, next, er := impl.GetVar(b, next)
	if er != impl.ErOk {
		return none, 0, er
	}
	if proposer >= l.N {
		return none, 0, impl.ErValue
	}
	parent, next, er := impl.GetRaw(b, next, 32)
	if er != impl.ErOk {
		return none, 0, er
	}
	root, next, er := impl.GetRaw(b, next, 32)
	if er != impl.ErOk {
		return none, 0, er
	}
	q, next, er := writtenGetQc(l, b, next)
	if er != impl.ErOk {
		return none, 0, er
	}
	h := impl.Head{View: view, Height: height, Proposer: proposer, Parent: parent, Root: root, Qc: q}
	if !writtenMatch(h) {
		return none, 0, impl.ErOrder
	}
	return h, next, impl.ErOk
}

// otherHeads are headers that differ from h in one part: in its value, in one
// byte, in its length, or in one part of the certificate.
func otherHeads(h impl.Head) []impl.Head {
	list := changedFields(h, cloneHead, headNumbers, headBytes)
	for _, q := range otherQcs(h.Qc) {
		other := cloneHead(h)
		other.Qc = q
		list = append(list, other)
	}
	return list
}

var headCodec = codec[impl.Head]{
	name: "Head", ok: impl.HeadOk, same: impl.HeadSame, put: impl.PutHead, get: impl.GetHead,
	writtenOk: writtenHeadOk, writtenSame: writtenHeadSame, writtenGet: writtenGetHead, raw: rawHead,
	others: otherHeads, clone: cloneHead, hold: holdHead, parts: partsOfHead, ruin: overwriteHead,
}

// A knownHead is a header, its encoding, and the hexadecimal digits of its hash.
type knownHead struct {
	n    int
	h    impl.Head
	want []byte
	hash string
}

// The hashes were computed with hashlib of Python.
func knownHeads() []knownHead {
	six, seven, eight, nine := filled(32, 6), filled(32, 7), filled(32, 8), filled(32, 9)
	none, top, most := filled(32, 0), filled(32, 255), filled(8, 255, 15)
	return []knownHead{
		{4, impl.Head{View: 5, Height: 2, Proposer: 1, Parent: seven, Root: eight, Qc: impl.Qc{View: 4, Height: 1, Block: seven, Bits: []byte{0}}},
			slices.Concat([]byte{5, 2, 1}, seven, eight, []byte{4, 1}, seven, []byte{0}),
			"08973a0e2c541619d93fd856c81c50b63e2004b5052bbd8b277b5b42f71cd311"},
		{4, impl.Head{View: 300, Height: 129, Proposer: 3, Parent: seven, Root: eight, Qc: impl.Qc{View: 128, Height: 128, Block: seven, Bits: []byte{5}, Tags: [][]byte{nine, six}}},
			slices.Concat([]byte{172, 2, 129, 1, 3}, seven, eight, []byte{128, 1, 128, 1}, seven, []byte{5}, nine, six),
			"ca8c30921fa7962c23127c6bbca254c7c212d731b306a8e1b6fe5114f285226e"},
		{1, impl.Head{View: 1, Height: 1, Parent: none, Root: none, Qc: impl.Qc{Block: none, Bits: []byte{0}}},
			slices.Concat([]byte{1, 1, 0}, none, none, []byte{0, 0}, none, []byte{0}),
			"1eb41f310c12441fd0f3a7ccf2628e090fa2268332706d2d534507ebc9d501ea"},
		{10, impl.Head{View: 1152921504606846975, Height: 1152921504606846975, Proposer: 9, Parent: top, Root: nine, Qc: impl.Qc{View: 1152921504606846974, Height: 1152921504606846974, Block: top, Bits: []byte{0, 2}, Tags: [][]byte{eight}}},
			slices.Concat(most, most, []byte{9}, top, nine, []byte{254}, filled(7, 255, 15), []byte{254}, filled(7, 255, 15), top, []byte{0, 2}, eight),
			"3eeba9bcde61d2229d5c60c36be9b36f677b41f8e74e360966f28ca3c7e5c3cf"},
	}
}

func TestHeadKnown(t *testing.T) {
	for _, k := range knownHeads() {
		headCodec.checkKnown(t, limitsFor(k.n), k.h, k.want)
	}
}

// Every set of signers of every number of validators stands in a header.
func TestHeadsOfEverySize(t *testing.T) {
	for n := 1; n <= impl.MaxSigners; n++ {
		for set := range 1 << n {
			headCodec.checkValid(t, limitsFor(n), headOfSet(set, n))
		}
		for _, h := range someHeads(n) {
			headCodec.checkValid(t, limitsFor(n), h)
		}
	}
}

// View and Height take all their edges, each View together with each Height; the
// certificate follows both.
func TestHeadViewsAndHeights(t *testing.T) {
	l := limitsFor(4)
	all := slices.Concat(edgeNumbers(), notNumbers, extremes)
	for _, view := range all {
		for _, height := range all {
			h := oneHead()
			h.View, h.Height, h.Qc.View, h.Qc.Height = view, height, view-1, height-1
			if view >= 1 && view <= impl.MaxNum && height >= 1 && height <= impl.MaxNum {
				headCodec.checkValid(t, l, h)
				continue
			}
			headCodec.checkInvalid(t, l, h)
			headCodec.checkInput(t, l, rawHead(h), 0)
		}
	}
}

// One number takes all its edges while the other parts stay as they are.
func TestHeadNumbers(t *testing.T) {
	l := limitsFor(4)
	least := map[string]int{"View": 301, "Height": 3, "Proposer": 0}
	most := map[string]int{"View": impl.MaxNum, "Height": 3, "Proposer": 3}
	for name, in := range headNumbers {
		for _, h := range []impl.Head{oneHead(), headWith(0), headWith(15)} {
			for _, n := range slices.Concat(edgeNumbers(), notNumbers, extremes, []int{4, 299, 300, 301, 302}) {
				*in(&h) = n
				headCodec.checkOk(t, l, nil, h, n >= least[name] && n <= most[name])
				headCodec.checkOk(t, l, []byte{5}, h, n >= least[name] && n <= most[name])
				headCodec.checkInput(t, l, rawHead(h), 0)
			}
			for _, n := range notNumbers {
				*in(&h) = n
				headCodec.checkNoneAt(t, l, rawHead(h), 0, impl.ErVar)
			}
		}
	}
}

// The block of height 0 has no header, whatever the certificate says.
func TestHeadOfHeightZero(t *testing.T) {
	for _, height := range []int{math.MinInt, -1, 0, 1, impl.MaxNum, math.MaxInt} {
		h := oneHead()
		h.Height, h.Qc.Height = 0, height
		headCodec.checkInvalid(t, limitsFor(4), h)
		headCodec.checkNoneAt(t, limitsFor(4), rawHead(h), 0, impl.ErValue)
	}
}

// No view is before view 0, so the header of a view 0 has no certificate that matches.
func TestHeadOfViewZero(t *testing.T) {
	for _, view := range append(edgeNumbers(), -1, math.MinInt) {
		h := oneHead()
		h.View, h.Qc.View = 0, view
		headCodec.checkInvalid(t, limitsFor(4), h)
		if view >= 0 {
			headCodec.checkNoneAt(t, limitsFor(4), rawHead(h), 0, impl.ErOrder)
		}
	}
}

func TestHeadsOfEveryProposer(t *testing.T) {
	for n := 1; n <= impl.MaxSigners; n++ {
		l, h := limitsFor(n), headOfSet(1, n)
		for h.Proposer = -3; h.Proposer < n+200; h.Proposer++ {
			switch {
			case h.Proposer >= 0 && h.Proposer < n:
				headCodec.checkValid(t, l, h)
			case h.Proposer >= n:
				headCodec.checkNoneAt(t, l, rawHead(h), 0, impl.ErValue)
				fallthrough
			default:
				headCodec.checkInvalid(t, l, h)
			}
		}
		for _, h.Proposer = range notSigners(n) {
			headCodec.checkInvalid(t, l, h)
			headCodec.checkInput(t, l, rawHead(h), 0)
		}
	}
}

// Parent is of any length alone, and together with the certificate's Block.
func TestHeadHashes(t *testing.T) {
	l := limitsFor(4)
	sized := append(notHashes(), filled(31, 0), filled(32, 0), filled(33, 0))
	for size := range 100 {
		sized = append(sized, mixedBytes(size, size))
	}
	for _, x := range sized {
		h := oneHead()
		h.Root = x
		headCodec.checkOk(t, l, nil, h, len(x) == 32)
		headCodec.checkOk(t, l, []byte{5}, h, len(x) == 32)
		h = oneHead()
		h.Parent = x
		headCodec.checkInvalid(t, l, h)
		h.Qc.Block = bytes.Clone(x)
		headCodec.checkOk(t, l, nil, h, len(x) == 32)
		headCodec.checkOk(t, l, []byte{5}, h, len(x) == 32)
	}
	// Both together have the bytes of two hashes.
	h := oneHead()
	h.Parent, h.Root = filled(31, 1), filled(33, 1)
	headCodec.checkInvalid(t, l, h)
	h.Qc.Block = filled(31, 1)
	headCodec.checkInvalid(t, l, h)
}

// A certificate that is not valid spoils a header that it matches.
func TestHeadsOfOtherCertificates(t *testing.T) {
	l := limitsFor(4)
	for _, whole := range []impl.Qc{oneQc(), qcWith(0), qcWith(15)} {
		list := append(otherQcs(whole), impl.Qc{}, qcWith(16), qcWith(255), qcWith(1, 0), qcWith(), impl.Qc{View: -1, Height: 2, Block: goHash(7), Bits: []byte{0}})
		for _, q := range list {
			h := headOver(q)
			h.View = max(q.View+1, 1)
			if q.View >= 0 && q.View < impl.MaxNum && q.Height >= 0 && q.Height < impl.MaxNum && len(q.Block) == 32 {
				headCodec.checkOk(t, l, nil, h, writtenQcOk(l, q))
			} else {
				headCodec.checkInvalid(t, l, h)
			}
		}
	}
}

// Every way to match meets every way not to.
func TestHeadMatches(t *testing.T) {
	first, last := goHash(7), goHash(7)
	first[0] ^= 128
	last[31] ^= 1
	for _, n := range []int{1, 4, 8, 9, 10} {
		for _, set := range []int{0, 1, 1<<n - 1} {
			whole := headOfSet(set, n)
			whole.View = 500
			for _, view := range []int{499, 0, 300, 498, 500, 501, 756, impl.MaxNum} {
				for _, height := range []int{2, 3, 1, 4, 0, 130, impl.MaxNum} {
					for i, block := range [][]byte{goHash(7), first, last, goHash(8), filled(32, 0)} {
						h := cloneHead(whole)
						h.Qc.View, h.Qc.Height, h.Qc.Block = view, height, block
						if view < 500 && height == 2 && i == 0 {
							headCodec.checkValid(t, limitsFor(n), h)
							continue
						}
						headCodec.checkInvalid(t, limitsFor(n), h)
						headCodec.checkNoneAt(t, limitsFor(n), rawHead(h), 0, impl.ErOrder)
					}
				}
			}
		}
	}
}

// Every byte of Parent differs from that of the certificate's Block, or both are changed.
func TestHeadOfOtherParents(t *testing.T) {
	for i := range 32 {
		for _, c := range []byte{1, 2, 128, 255} {
			h := oneHead()
			h.Parent[i] ^= c
			headCodec.checkInvalid(t, limitsFor(4), h)
			headCodec.checkNoneAt(t, limitsFor(4), rawHead(h), 0, impl.ErOrder)
			h.Qc.Block[i] ^= c
			headCodec.checkValid(t, limitsFor(4), h)
			h.Parent[i] ^= c
			headCodec.checkInvalid(t, limitsFor(4), h)
			headCodec.checkNoneAt(t, limitsFor(4), rawHead(h), 0, impl.ErOrder)
		}
	}
	for _, block := range [][]byte{nil, {}, goHash(7)[:31], append(goHash(7), 0), append(goHash(7), goHash(7)...)} {
		h := oneHead()
		h.Qc.Block = block
		headCodec.checkInvalid(t, limitsFor(4), h)
	}
}

// Every part takes valid and other values together with those of all other parts.
func TestHeadParts(t *testing.T) {
	certificates := []impl.Qc{{}, {Block: goHash(1), Bits: []byte{0}}, {Block: filled(31, 1), Bits: []byte{0}}, {Block: goHash(1), Bits: []byte{4}, Tags: tagsFor(1)}}
	for _, view := range []int{-1, 0, impl.MaxNum} {
		for _, height := range []int{-1, 0, 4, impl.MaxNum} {
			certificates = append(certificates, impl.Qc{View: view, Height: height, Block: goHash(1), Bits: []byte{1}, Tags: tagsFor(1)})
		}
	}
	for _, l := range []impl.Limits{limitsFor(1), limitsFor(3), {}} {
		for _, view := range []int{math.MinInt, -1, 0, 1, 5, impl.MaxNum, impl.MaxNum + 1, math.MaxInt} {
			for _, height := range []int{math.MinInt, -1, 0, 1, 5, impl.MaxNum, impl.MaxNum + 1, math.MaxInt} {
				for _, proposer := range []int{-1, 0, l.N - 1, l.N} {
					for _, parent := range [][]byte{nil, goHash(1), goHash(2), filled(31, 1)} {
						for _, root := range [][]byte{goHash(1), filled(33, 1)} {
							for _, q := range certificates {
								h := impl.Head{View: view, Height: height, Proposer: proposer, Parent: parent, Root: root, Qc: q}
								headCodec.checkOk(t, l, nil, h, writtenHeadOk(l, h))
							}
						}
					}
				}
			}
		}
	}
}

func TestHeadLimits(t *testing.T) {
	for _, base := range append(someLimits, limitsFor(4)) {
		headCodec.checkLimits(t, base, headOfSet(1, base.N))
	}
	headCodec.checkInvalid(t, impl.Limits{}, impl.Head{})
	headCodec.checkInvalid(t, limitsFor(4), impl.Head{})
}

func TestHeadOfWrongLimits(t *testing.T) {
	mismatch := oneHead()
	mismatch.Qc.Height = 0
	inputs := [][]byte{nil, {}, {0}, {128}, {128, 0}, {1, 0}, {1, 1, 4}, rawHead(oneHead()), rawHead(oneHead())[:90], rawHead(headWith(255)), rawHead(mismatch), filled(300, 255), filled(300, 0)}
	headCodec.checkWrongLimits(t, inputs, oneHead(), headWith(0), mismatch, impl.Head{})
}

func TestHeadOffsets(t *testing.T) {
	headCodec.checkOffsets(t, limitsFor(4), rawHead(oneHead()), rawHead(headWith(0)), filled(300, 1), filled(300, 128))
}

func TestHeadSameOfOneDifference(t *testing.T) {
	odd := []impl.Head{{}, {View: -7, Height: math.MinInt, Proposer: math.MaxInt, Parent: []byte{1}, Root: filled(50, 3), Qc: impl.Qc{View: -1, Tags: [][]byte{nil, {}, {5}}}}}
	for _, h := range append(odd, oneHead(), headWith(0), headWith(255, 3)) {
		headCodec.checkDifferences(t, h)
	}
}

// Small headers meet one another; the same bytes may stand in any of the parts,
// the same number in any field.
func TestHeadSameOfSmallHeads(t *testing.T) {
	var list []impl.Head
	parts := [][]byte{nil, {}, {0}}
	for at := range 6 {
		for i := range 81 {
			for _, tags := range [][][]byte{nil, {{0}}} {
				h := impl.Head{Parent: parts[i%3], Root: parts[i/3%3], Qc: impl.Qc{Block: parts[i/9%3], Bits: parts[i/27], Tags: tags}}
				for field, in := range []*int{&h.View, &h.Height, &h.Proposer, &h.Qc.View, &h.Qc.Height} {
					if field == at {
						*in = 1
					}
				}
				list = append(list, h)
			}
		}
	}
	headCodec.checkEachPair(t, list)
}

func TestHeadOfNil(t *testing.T) {
	l, h := limitsFor(4), headWith(0)
	for _, b := range [][]byte{nil, {}} {
		headCodec.checkOk(t, l, b, h, true)
		headCodec.checkNoneAt(t, l, b, 0, impl.ErShort)
		for _, h.Qc.Tags = range [][][]byte{nil, {}} {
			headCodec.checkValid(t, l, h)
		}
	}
	for _, x := range [][]byte{nil, {}} {
		for _, y := range [][]byte{nil, {}} {
			for _, tags := range [][][]byte{nil, {}} {
				a := impl.Head{Parent: x, Root: y, Qc: impl.Qc{Block: x, Bits: y, Tags: tags}}
				headCodec.checkSame(t, a, impl.Head{}, true)
				headCodec.checkSame(t, a, impl.Head{Parent: y, Root: x, Qc: impl.Qc{Block: y, Bits: x}}, true)
				headCodec.checkSame(t, a, impl.Head{Parent: []byte{0}}, false)
				headCodec.checkSame(t, a, impl.Head{Root: []byte{0}}, false)
				headCodec.checkInvalid(t, l, a)
				a.View, a.Height, a.Root, a.Qc.Bits = 1, 1, goHash(1), []byte{0}
				headCodec.checkInvalid(t, l, a)
			}
		}
	}
}
