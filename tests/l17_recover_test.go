package tests

import (
	"bytes"
	"slices"
	"testing"

	"loop.example/g00790/impl"
)

// P4 for chapter 18: a message is recovered from its encoding, and every input is
// the encoding of one valid message or has its first error.

func TestMsgsRecovered(t *testing.T) {
	eachValidMsg(func(l impl.Limits, m impl.Msg) {
		b, ok := impl.Encode(l, m)
		got, er := impl.Decode(l, b)
		if !ok || er != impl.ErOk || !writtenMsgSame(got, m) || !impl.MsgSame(got, m) || !impl.MsgOk(l, got) {
			t.Errorf("%+v is decoded from %v, %v, the encoding of %+v: %d", got, b, ok, m, er)
		}
	})
}

// The greatest numbers and the longest lists of all kinds are recovered.
func TestLongestMsgsRecovered(t *testing.T) {
	l := mostFor(10)
	qc := impl.Qc{View: impl.MaxNum - 1, Height: impl.MaxNum - 1, Block: filled(32, 255), Bits: []byte{255, 3}, Tags: tagsFor(10)}
	head := headOver(qc)
	head.Proposer = 9
	tc := tcBy(0, 1, 2, 3, 4, 5, 6, 7, 8, 9)
	tc.View = impl.MaxNum
	for i := range tc.Entries {
		tc.Entries[i].High = impl.MaxNum - 1
	}
	incl := inclOf(8, 3, filled(40, 255))
	incl.Height = impl.MaxNum
	for _, m := range []impl.Msg{
		impl.OfVote(impl.Vote{View: impl.MaxNum, Height: impl.MaxNum, Block: filled(32, 255), Who: 9, Tag: filled(32, 255)}),
		impl.OfQc(qc), impl.OfHead(head), impl.OfBlock(blockOver(head, slices.Repeat([][]byte{filled(40, 255)}, 8))),
		impl.OfTc(tc), impl.OfProof(proofOf(slices.Repeat([]impl.Head{head}, 5), 1023, 10)), impl.OfIncl(incl),
	} {
		checkWholeMsg(t, l, m)
		msgCodec.checkCut(t, l, m)
		checkLeft(t, l, m)
	}
}

func TestEncodingsOfMsgsDiffer(t *testing.T) {
	l := limitsFor(4)
	var list []impl.Msg
	for _, k := range msgKinds {
		all := k.valid(l)
		list = append(list, all[:min(40, len(all))]...)
	}
	for _, k := range msgKinds {
		for _, m := range k.few() {
			msgCodec.checkOtherEncodings(t, l, m, append(list, fewMsgs()...))
		}
	}
}

func TestCutMsgs(t *testing.T) {
	for n := 1; n <= impl.MaxSigners; n++ {
		for _, k := range msgKinds {
			for i, m := range k.valid(limitsFor(n)) {
				if i%17 == n {
					msgCodec.checkCut(t, limitsFor(n), m)
				}
			}
		}
	}
	for _, m := range fewMsgs() {
		msgCodec.checkCut(t, limitsFor(4), m)
	}
}

// checkLeft puts bytes behind the encoding of a valid message.
func checkLeft(t *testing.T, l impl.Limits, m impl.Msg) {
	t.Helper()
	b := rawMsg(m)
	for v := range 256 {
		msgCodec.checkNoneAt(t, l, append(bytes.Clone(b), byte(v)), 0, impl.ErLeft)
	}
	for _, more := range [][]byte{{0, 0}, {128, 0}, {181, 70}, filled(32, 0), filled(32, 255), filled(300, 1), b, b[:len(b)-1], b[1:]} {
		msgCodec.checkNoneAt(t, l, slices.Concat(b, more), 0, impl.ErLeft)
	}
}

func TestBytesBehindMsgs(t *testing.T) {
	for n := 1; n <= impl.MaxSigners; n++ {
		for _, k := range msgKinds {
			for i, m := range k.valid(limitsFor(n)) {
				if i%17 == n {
					checkLeft(t, limitsFor(n), m)
				}
			}
		}
	}
	for _, m := range fewMsgs() {
		checkLeft(t, limitsFor(4), m)
		for _, other := range fewMsgs() {
			msgCodec.checkNoneAt(t, limitsFor(4), append(rawMsg(m), rawMsg(other)...), 0, impl.ErLeft)
		}
	}
}

func TestNoBytes(t *testing.T) {
	for _, l := range append(someLimits, limitsFor(4)) {
		for _, b := range [][]byte{nil, {}, make([]byte, 0, 10), rawMsg(fewMsgs()[0])[:0]} {
			msgCodec.checkNoneAt(t, l, b, 0, impl.ErShort)
		}
	}
}

// One byte alone is a kind, of which the object is missing, or none.
func TestLoneBytes(t *testing.T) {
	for v := range 256 {
		want := impl.ErKind
		if v >= 1 && v <= 7 {
			want = impl.ErShort
		}
		for _, l := range append(someLimits, limitsFor(4)) {
			msgCodec.checkNoneAt(t, l, []byte{byte(v)}, 0, want)
		}
	}
}

// Every byte stands in the place of the kind, ahead of every object and ahead of bytes that are none.
func TestFirstBytesOfMsgs(t *testing.T) {
	for _, k := range msgKinds {
		for _, object := range k.inputs() {
			for v := range 256 {
				b := append([]byte{byte(v)}, object...)
				for _, l := range []impl.Limits{limitsFor(4), mostFor(10)} {
					msgCodec.checkAccepted(t, l, b, 0)
					if v == 0 || v > 7 {
						msgCodec.checkNoneAt(t, l, b, 0, impl.ErKind)
					}
				}
			}
		}
	}
}

// What is decoded behind the kind is what the Get function of the object decodes
// there, with its code. It does not read what follows.
func TestObjectsOfMsgs(t *testing.T) {
	for _, k := range msgKinds {
		for _, object := range k.inputs() {
			b := append([]byte{byte(k.kind)}, object...)
			m, next, er := k.get(limitsFor(4), object, 0)
			if er != impl.ErOk {
				msgCodec.checkNoneAt(t, limitsFor(4), b, 0, er)
				continue
			}
			msgCodec.checkAt(t, limitsFor(4), b[:1+next], 0, m, 1+next, impl.ErOk)
			if next < len(object) {
				msgCodec.checkNoneAt(t, limitsFor(4), b, 0, impl.ErLeft)
			}
		}
	}
}

// A numberedMsg is a message, its parts, and the places of the numbers among them.
type numberedMsg struct {
	m      impl.Msg
	parts  [][]byte
	places []int
}

// numberedMsgs have few bytes behind their numbers.
func numberedMsgs() []numberedMsg {
	v, q, h, tc, p, x := oneVote(), qcWith(2), headWith(1), tcBy(1, 3), bareProof(3), inclOf(3, 2, []byte{5})
	block := blockOver(headWith(0), [][]byte{{1}, {}})
	places := []int{1, headPart(3) + 1, headPart(3) + 2}
	for i := range 3 {
		at := headPart(i) + 1
		places = append(places, at, at+1, at+2, at+5, at+6)
	}
	list := []numberedMsg{
		{impl.Msg{Kind: 1, Vote: v}, [][]byte{varint(v.View), varint(v.Height), v.Block, varint(v.Who), v.Tag}, []int{1, 2, 4}},
		{impl.Msg{Kind: 2, Qc: q}, partsOfRawQc(q), []int{1, 2}},
		{impl.Msg{Kind: 3, Head: h}, partsOfRawHead(h), []int{1, 2, 3, 6, 7}},
		{impl.Msg{Kind: 4, Block: block}, partsOfRawBlock(block), []int{1, 2, 3, 6, 7, 1 + countPart, 2 + countPart, 4 + countPart}},
		{impl.Msg{Kind: 5, Tc: tc}, partsOfRawTc(tc), []int{1, 2, 3, 4, 6, 7}},
		{impl.Msg{Kind: 6, Proof: p}, partsOfRawProof(p), places},
		{impl.Msg{Kind: 7, Incl: x}, partsOfRawIncl(x), []int{1, 2, 3, 4}},
	}
	for i := range list {
		list[i].parts = slices.Insert(list[i].parts, 0, []byte{byte(i + 1)})
	}
	return list
}

// Each number of each kind is not in canonical form, too large or cut off.
func TestWrongNumbersOfMsgs(t *testing.T) {
	for _, one := range numberedMsgs() {
		b := slices.Concat(one.parts...)
		msgCodec.checkAt(t, limitsFor(4), b, 0, one.m, len(b), impl.ErOk)
		eachWrongNumber(one.parts, one.places, func(b []byte, code int) {
			t.Helper()
			msgCodec.checkNoneAt(t, limitsFor(4), b, 0, code)
		})
	}
}

// Each number of each kind takes other values, near it and far from it.
func TestOtherNumbersOfMsgs(t *testing.T) {
	for _, one := range numberedMsgs() {
		for _, place := range one.places {
			for _, n := range append(edgeNumbers(), 2, 3, 4, 5, 6, 9, 10, 11, 299, 300, 301) {
				b, _ := withPart(one.parts, place, varint(n))
				for _, l := range []impl.Limits{limitsFor(4), mostFor(4), limitsFor(1)} {
					msgCodec.checkAccepted(t, l, b, 0)
					msgCodec.checkAccepted(t, l, append(b, 0), 0)
				}
			}
		}
	}
}

// Two parts are wrong, and the first one has its code; what is left behind comes last.
func TestFirstErrorOfMsgs(t *testing.T) {
	wrong, hash, left := []byte{128, 0}, filled(32, 7), []byte{0}
	vote, certificate, header := rawVote(oneVote()), rawQc(oneQc()), rawHead(headWith(0))
	mismatch := headWith(0)
	mismatch.Qc.Height++
	order := rawHead(mismatch)
	block := rawBlock(blockOver(headWith(0), [][]byte{{1}}))
	end := rawQc(qcFor(headWith(0), 1, 4))
	msgCodec.checkCodes(t, limitsFor(4), []partsCase{
		{nil, impl.ErShort},
		{[][]byte{{0}}, impl.ErKind},
		{[][]byte{{0}, wrong}, impl.ErKind},
		{[][]byte{{8}, vote}, impl.ErKind},
		{[][]byte{{8}, vote[:10]}, impl.ErKind},
		{[][]byte{{128}}, impl.ErKind},
		{[][]byte{{129, 0}, vote}, impl.ErKind},
		{[][]byte{{129}, vote, left}, impl.ErKind},
		{[][]byte{{255}, filled(20, 255)}, impl.ErKind},

		{[][]byte{{1}, vote}, impl.ErOk},
		{[][]byte{{1}, vote, left}, impl.ErLeft},
		{[][]byte{{1}, vote, vote}, impl.ErLeft},
		{[][]byte{{1}, vote, wrong}, impl.ErLeft},
		{[][]byte{{1}}, impl.ErShort},
		{[][]byte{{1}, wrong}, impl.ErVar},
		{[][]byte{{1}, {5}, wrong, hash, {4}}, impl.ErVar},
		{[][]byte{{1}, {5, 2}, hash, {4}}, impl.ErValue},
		{[][]byte{{1}, {5, 2}, hash, {4}, hash, left}, impl.ErValue},
		{[][]byte{{1}, {5, 2}, hash, {3}, hash[:31]}, impl.ErShort},

		{[][]byte{{2}, certificate}, impl.ErOk},
		{[][]byte{{2}, certificate, left}, impl.ErLeft},
		{[][]byte{{2}, {5}, wrong, hash, {16}}, impl.ErVar},
		{[][]byte{{2}, {5, 2}, hash, {16}}, impl.ErPad},
		{[][]byte{{2}, {5, 2}, hash, {16}, hash, left}, impl.ErPad},
		{[][]byte{{2}, {5, 2}, hash, {1}, hash[:31]}, impl.ErShort},
		{[][]byte{{2}, {5, 2}, hash, {0}, hash}, impl.ErLeft},

		{[][]byte{{3}, header}, impl.ErOk},
		{[][]byte{{3}, header, left}, impl.ErLeft},
		{[][]byte{{3}, {5, 0}, wrong}, impl.ErValue},
		{[][]byte{{3}, {5, 2, 4}, hash}, impl.ErValue},
		{[][]byte{{3}, {5, 2, 3}, hash, hash, wrong}, impl.ErVar},
		{[][]byte{{3}, {5, 2, 3}, hash, hash, {5, 7}, hash, {16}}, impl.ErPad},
		{[][]byte{{3}, order}, impl.ErOrder},
		{[][]byte{{3}, order, left}, impl.ErOrder},

		{[][]byte{{4}, block}, impl.ErOk},
		{[][]byte{{4}, block, left}, impl.ErLeft},
		{[][]byte{{4}, order, {5}}, impl.ErOrder},
		{[][]byte{{4}, header}, impl.ErShort},
		{[][]byte{{4}, header, wrong}, impl.ErVar},
		{[][]byte{{4}, header, {5}, wrong}, impl.ErLong},
		{[][]byte{{4}, header, {2, 11}, wrong}, impl.ErLong},
		{[][]byte{{4}, header, {1, 2, 1}}, impl.ErShort},
		{[][]byte{{4}, header, {1, 1, 1}}, impl.ErRoot},
		{[][]byte{{4}, header, {1, 1, 1}, left}, impl.ErRoot},
		{[][]byte{{4}, header, {0}}, impl.ErRoot},

		{[][]byte{{5}, {5, 0}}, impl.ErOk},
		{[][]byte{{5}, {5, 0}, left}, impl.ErLeft},
		{[][]byte{{5}, {5, 5}, wrong}, impl.ErLong},
		{[][]byte{{5}, {5, 1, 4, 9}, hash}, impl.ErValue},
		{[][]byte{{5}, {5, 1, 3, 5}, hash, left}, impl.ErOrder},
		{[][]byte{{5}, {5, 2, 3, 4}, hash, {3}, wrong}, impl.ErOrder},
		{[][]byte{{5}, {5, 2, 3, 4}, hash, {4}, wrong}, impl.ErValue},
		{[][]byte{{5}, {5, 1, 3, 4}, hash}, impl.ErOk},
		{[][]byte{{5}, {5, 1, 3, 4}, hash, hash}, impl.ErLeft},

		{[][]byte{{6}, {3}, header, header, header, end}, impl.ErOk},
		{[][]byte{{6}, {3}, header, header, header, end, left}, impl.ErLeft},
		{[][]byte{{6}, {2}, wrong}, impl.ErValue},
		{[][]byte{{6}, {6}, wrong}, impl.ErLong},
		{[][]byte{{6}, {3}, header, order, wrong}, impl.ErOrder},
		{[][]byte{{6}, {3}, header, header, header, {7, 7}, hash, {16}}, impl.ErPad},
		{[][]byte{{6}, {3}, header, header, header, {7, 7}, hash, left, left}, impl.ErOrder},
		{[][]byte{{6}, {3}, header, header, header}, impl.ErShort},

		{[][]byte{{7}, {7, 1, 0, 0}}, impl.ErOk},
		{[][]byte{{7}, {7, 1, 0, 0}, left}, impl.ErLeft},
		{[][]byte{{7}, {7, 0}, wrong}, impl.ErValue},
		{[][]byte{{7}, {7, 5}, wrong}, impl.ErLong},
		{[][]byte{{7}, {7, 3, 3}, wrong}, impl.ErValue},
		{[][]byte{{7}, {7, 3, 2, 11}, hash}, impl.ErLong},
		{[][]byte{{7}, {7, 3, 2, 0}, hash[:31]}, impl.ErShort},
		{[][]byte{{7}, {7, 3, 2, 0}, hash, left}, impl.ErLeft},
	})
}

// A message that some limits allow is read with others.
func TestMsgsOfOtherLimits(t *testing.T) {
	limits := append(slices.Clone(someLimits), limitsFor(4), limitsFor(3), proofLimits(4, 3))
	for _, from := range limits {
		for _, k := range msgKinds {
			for i, m := range k.valid(from) {
				for at, to := range limits {
					// The values of one kind resemble each other: some of them are enough.
					if (i+at)%5 == 0 {
						msgCodec.checkAccepted(t, to, rawMsg(m), 0)
					}
				}
			}
		}
	}
}

// shortMsgs are of all kinds, and have few bytes.
func shortMsgs() []impl.Msg {
	var list []impl.Msg
	for _, one := range numberedMsgs() {
		list = append(list, one.m)
	}
	return append(list, impl.Msg{Kind: 5}, impl.Msg{Kind: 7, Incl: impl.Incl{N: 1}}, impl.Msg{Kind: 2, Qc: qcWith(0)})
}

func TestChangedBytesOfMsgs(t *testing.T) {
	for _, m := range shortMsgs() {
		msgCodec.checkChangedBytes(t, limitsFor(4), m)
	}
}

func TestShiftedBytesOfMsgs(t *testing.T) {
	for _, m := range shortMsgs() {
		if m.Kind != 6 {
			msgCodec.checkShiftedBytes(t, limitsFor(4), m, 0, 1, 5, 7, 128)
		}
	}
	msgCodec.checkShiftedBytes(t, limitsFor(4), impl.Msg{Kind: 6, Proof: bareProof(3)}, 6)
}

// Short strings are messages of themselves, or stand ahead of hashes.
func TestMsgInputs(t *testing.T) {
	accepted := 0
	eachInput([]byte{0, 1, 5, 7, 128}, 5, func(b []byte) {
		msgCodec.checkAccepted(t, limitsFor(4), b, 0)
		if _, er := impl.Decode(limitsFor(4), b); er == impl.ErOk {
			accepted++
		}
	})
	// Ten timeout certificates have no entries: their views take one byte, two or
	// three. Four transaction proofs have one empty transaction.
	if accepted != 4+3+3+4 {
		t.Errorf("%d short inputs are accepted", accepted)
	}
	hash := filled(32, 1)
	eachInput([]byte{0, 1, 2, 3, 4, 5, 6, 7, 8, 128, 255}, 4, func(b []byte) {
		for _, rest := range [][]byte{hash, slices.Concat(hash, []byte{1}, hash), slices.Concat(hash, hash, []byte{0, 0}, hash, []byte{0})} {
			msgCodec.checkAccepted(t, limitsFor(4), slices.Concat(b, rest), 0)
		}
	})
}
