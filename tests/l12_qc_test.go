package tests

import (
	"bytes"
	"math"
	"slices"
	"testing"

	"loop.example/g00790/impl"
)

// P12 for chapter 13: every function returns what the chapter specifies. The
// tests of QcVotes and QcFrom stand in l12_list_test.go.

// qcNumbers and qcBytes are the fields of a certificate of which a test can change one alone.
var qcNumbers = map[string]func(q *impl.Qc) *int{
	"View":   func(q *impl.Qc) *int { return &q.View },
	"Height": func(q *impl.Qc) *int { return &q.Height },
}

var qcBytes = map[string]func(q *impl.Qc) *[]byte{
	"Block": func(q *impl.Qc) *[]byte { return &q.Block },
	"Bits":  func(q *impl.Qc) *[]byte { return &q.Bits },
}

// tagsFor returns n tags that differ from each other.
func tagsFor(n int) [][]byte {
	var list [][]byte
	for i := range n {
		list = append(list, goHash(9, varint(i)))
	}
	return list
}

// qcWith returns a certificate that has a tag for every set bit.
func qcWith(bits ...byte) impl.Qc {
	q := impl.Qc{View: 300, Height: 2, Block: goHash(7), Bits: bits}
	q.Tags = tagsFor(len(setBits(bits)))
	return q
}

// qcOfSet returns a certificate of the signers of a set, in which signer i is the bit 2^i.
func qcOfSet(set, n int) impl.Qc { return qcWith(bitmapOf(set, n)...) }

// oneQc returns a certificate of three of four validators.
func oneQc() impl.Qc { return qcWith(13) }

func cloneQc(q impl.Qc) impl.Qc {
	q.Block, q.Bits, q.Tags = bytes.Clone(q.Block), bytes.Clone(q.Bits), deepClone(q.Tags)
	return q
}

// someQcs are valid certificates of n validators: of none, of one, of some and of all.
func someQcs(n int) []impl.Qc {
	var list []impl.Qc
	blocks := [][]byte{filled(32, 0), filled(32, 255), mixedBytes(32, 12), goHash(1), filled(32, 128)}
	numbers := edgeNumbers()
	for i, set := range append(someSets(n), 0, 1, 1<<(n-1), 1<<n-1) {
		q := qcOfSet(set, n)
		q.View, q.Height = numbers[i%len(numbers)], numbers[i*7%len(numbers)]
		q.Block = blocks[i%len(blocks)]
		if i%4 == 3 {
			for at := range q.Tags {
				q.Tags[at] = q.Block
			}
		}
		list = append(list, q)
	}
	return list
}

// setBits finds the set bits with divisions only.
func setBits(b []byte) []int {
	var list []int
	for at, c := range b {
		for i := range 8 {
			if c%2 == 1 {
				list = append(list, 8*at+i)
			}
			c /= 2
		}
	}
	return list
}

// writtenBitmap reports whether b is a bitmap of n signers.
func writtenBitmap(b []byte, n int) bool {
	if n < 1 || n > 10 || len(b) != (n+7)/8 {
		return false
	}
	signers := setBits(b)
	return len(signers) == 0 || signers[len(signers)-1] < n
}

func writtenQcOk(l impl.Limits, q impl.Qc) bool {
	numbers := q.View >= 0 && q.View <= 1152921504606846975 && q.Height >= 0 && q.Height <= 1152921504606846975
	if !writtenLimitsOk(l) || !numbers || len(q.Block) != 32 || !writtenBitmap(q.Bits, l.N) || len(q.Tags) != len(setBits(q.Bits)) {
		return false
	}
	for _, tag := range q.Tags {
		if len(tag) != 32 {
			return false
		}
	}
	return true
}

func writtenQcSame(a, b impl.Qc) bool {
	numbers := a.View == b.View && a.Height == b.Height
	return numbers && bytes.Equal(a.Block, b.Block) && bytes.Equal(a.Bits, b.Bits) && sameList(a.Tags, b.Tags)
}

// partsOfRawQc are the encodings of all parts of a certificate; the tags are one of them.
func partsOfRawQc(q impl.Qc) [][]byte {
	return [][]byte{varint(q.View), varint(q.Height), q.Block, q.Bits, slices.Concat(q.Tags...)}
}

// rawQc puts the parts of a certificate together, valid or not.
func rawQc(q impl.Qc) []byte { return slices.Concat(partsOfRawQc(q)...) }

// writtenGetQc names the parts one by one, as the chapter does.
func writtenGetQc(l impl.Limits, b []byte, at int) (impl.Qc, int, int) {
	none := impl.Qc{}
	if !writtenLimitsOk(l) {
		return none, 0, impl.ErValue
	}
	view, next, er := impl.GetVar(b, at)
	if er != impl.ErOk {
		return none, 0, er
	}
	height, next, er := impl.GetVar(b, next)
	if er != impl.ErOk {
		return none, 0, er
	}
	block, next, er := impl.GetRaw(b, next, 32)
	if er != impl.ErOk {
		return none, 0, er
	}
	bits, next, er := impl.GetBits(b, next, l.N)
	if er != impl.ErOk {
		return none, 0, er
	}
	q := impl.Qc{View: view, Height: height, Block: block, Bits: bits}
	for range setBits(bits) {
		var tag []byte
		tag, next, er = impl.GetRaw(b, next, 32)
		if er != impl.ErOk {
			return none, 0, er
		}
		q.Tags = append(q.Tags, tag)
	}
	return q, next, impl.ErOk
}

var qcCodec = codec[impl.Qc]{
	name: "Qc", ok: impl.QcOk, same: impl.QcSame, put: impl.PutQc, get: impl.GetQc,
	writtenOk: writtenQcOk, writtenSame: writtenQcSame, writtenGet: writtenGetQc, raw: rawQc,
	others: otherQcs, clone: cloneQc, hold: holdQc, parts: partsOfQc, ruin: overwriteQc,
}

func TestQcKnown(t *testing.T) {
	block, first, second := filled(32, 7), filled(32, 9), filled(32, 8)
	most := filled(8, 255, 15)
	cases := []struct {
		n    int
		q    impl.Qc
		want []byte
	}{
		{4, impl.Qc{View: 300, Height: 2, Block: block, Bits: []byte{5}, Tags: [][]byte{first, second}}, slices.Concat([]byte{172, 2, 2}, block, []byte{5}, first, second)},
		{4, impl.Qc{View: 3, Height: 1, Block: block, Bits: []byte{10}, Tags: [][]byte{second, first}}, slices.Concat([]byte{3, 1}, block, []byte{10}, second, first)},
		{1, impl.Qc{Block: block, Bits: []byte{0}}, slices.Concat([]byte{0, 0}, block, []byte{0})},
		{1, impl.Qc{Block: block, Bits: []byte{1}, Tags: [][]byte{first}}, slices.Concat([]byte{0, 0}, block, []byte{1}, first)},
		{8, impl.Qc{View: 1, Height: 127, Block: first, Bits: []byte{128}, Tags: [][]byte{block}}, slices.Concat([]byte{1, 127}, first, []byte{128}, block)},
		{9, impl.Qc{View: 128, Height: 16384, Block: block, Bits: []byte{0, 1}, Tags: [][]byte{block}}, slices.Concat([]byte{128, 1, 128, 128, 1}, block, []byte{0, 1}, block)},
		{10, impl.Qc{View: 1152921504606846975, Height: 1152921504606846975, Block: block, Bits: []byte{1, 2}, Tags: [][]byte{first, second}}, slices.Concat(most, most, block, []byte{1, 2}, first, second)},
		{10, impl.Qc{Block: block, Bits: []byte{0, 0}, Tags: [][]byte{}}, slices.Concat([]byte{0, 0}, block, []byte{0, 0})},
	}
	for _, c := range cases {
		qcCodec.checkKnown(t, limitsFor(c.n), c.q, c.want)
	}
}

// Every set of signers of every number of validators has a certificate.
func TestQcsOfEverySize(t *testing.T) {
	for n := 1; n <= impl.MaxSigners; n++ {
		for set := range 1 << n {
			qcCodec.checkValid(t, limitsFor(n), qcOfSet(set, n))
		}
		for _, q := range someQcs(n) {
			qcCodec.checkValid(t, limitsFor(n), q)
		}
	}
}

// One number takes all its edges while the other parts stay valid.
func TestQcNumbers(t *testing.T) {
	l := limitsFor(4)
	for _, in := range qcNumbers {
		for _, q := range []impl.Qc{oneQc(), qcWith(0)} {
			for _, n := range edgeNumbers() {
				*in(&q) = n
				qcCodec.checkOk(t, l, nil, q, true)
				qcCodec.checkOk(t, l, []byte{5}, q, true)
				qcCodec.checkAt(t, l, rawQc(q), 0, q, len(rawQc(q)), impl.ErOk)
			}
			for _, n := range append(notNumbers, extremes...) {
				*in(&q) = n
				qcCodec.checkOk(t, l, nil, q, writtenQcOk(l, q))
				qcCodec.checkOk(t, l, []byte{5}, q, writtenQcOk(l, q))
			}
			for _, n := range notNumbers {
				*in(&q) = n
				qcCodec.checkOk(t, l, nil, q, false)
				qcCodec.checkNoneAt(t, l, rawQc(q), 0, impl.ErVar)
			}
		}
	}
}

func TestQcBlocks(t *testing.T) {
	l, q := limitsFor(4), oneQc()
	for size := range 100 {
		q.Block = mixedBytes(size, size)
		qcCodec.checkOk(t, l, nil, q, size == 32)
		qcCodec.checkOk(t, l, []byte{5}, q, size == 32)
	}
	for _, x := range notHashes() {
		q.Block = x
		qcCodec.checkOk(t, l, nil, q, false)
	}
}

// Bits takes all values of up to two bytes, and some of three, for every number of validators.
func TestQcBits(t *testing.T) {
	for n := range 13 {
		l := limitsFor(n)
		for _, bits := range [][]byte{nil, {}, {0, 0, 0}, {1, 0, 0}, {0, 0, 1}, {255, 3, 0}, filled(100, 0)} {
			qcCodec.checkOk(t, l, nil, qcWith(bits...), false)
		}
		for c := range 256 {
			q := qcWith(byte(c))
			qcCodec.checkOk(t, l, nil, q, n >= 1 && n <= 8 && c < 1<<n)
			qcCodec.checkInput(t, l, rawQc(q), 0)
		}
		for c := range 1 << 16 {
			q := impl.Qc{Block: filled(32, 7), Bits: bitmapOf(c, 16)}
			q.Tags = slices.Repeat([][]byte{q.Block}, len(setBits(q.Bits)))
			want := n >= 9 && n <= 10 && c < 1<<n
			if got := impl.QcOk(l, q); got != want {
				t.Errorf("QcOk of the bitmap %v of %d: %v", q.Bits, n, got)
			}
		}
	}
}

// Every set of signers meets every number of tags.
func TestQcTags(t *testing.T) {
	for _, n := range []int{1, 4, 8, 9, 10} {
		for _, set := range someSets(n) {
			q := qcOfSet(set, n)
			count := len(q.Tags)
			for size := range count + 3 {
				q.Tags = tagsFor(size)
				qcCodec.checkOk(t, limitsFor(n), nil, q, size == count)
			}
			for _, tags := range [][][]byte{nil, {}} {
				q.Tags = tags
				qcCodec.checkOk(t, limitsFor(n), nil, q, count == 0)
			}
		}
	}
}

// A tag at any place, the first and the last among them, is none.
func TestQcTagSizes(t *testing.T) {
	wrong := append(notHashes(), filled(31, 0), filled(33, 0), filled(0, 0))
	for _, n := range []int{1, 3, 8, 9, 10} {
		whole := qcOfSet(1<<n-1, n)
		for at := range whole.Tags {
			for _, tag := range wrong {
				q := cloneQc(whole)
				q.Tags[at] = tag
				qcCodec.checkOk(t, limitsFor(n), nil, q, false)
				qcCodec.checkOk(t, limitsFor(n), []byte{5}, q, false)
			}
			// The tags have the right number of bytes together.
			q := cloneQc(whole)
			q.Tags[at], q.Tags[(at+1)%n] = filled(31, 1), filled(33, 2)
			qcCodec.checkOk(t, limitsFor(n), nil, q, false)
		}
	}
}

// Every part takes valid and other values together with those of all other parts.
func TestQcParts(t *testing.T) {
	numbers := []int{math.MinInt, -1, 0, 5, impl.MaxNum, impl.MaxNum + 1, math.MaxInt}
	blocks := [][]byte{nil, goHash(1), filled(31, 1), filled(33, 1)}
	lists := [][][]byte{nil, {goHash(1)}, {goHash(1), goHash(2)}, {filled(31, 1)}, {goHash(1), filled(33, 1)}, {nil}}
	for _, l := range []impl.Limits{limitsFor(1), limitsFor(2), limitsFor(9), {}} {
		for _, view := range numbers {
			for _, height := range numbers {
				for _, block := range blocks {
					for _, bits := range [][]byte{nil, {0}, {1}, {2}, {3}, {4}, {0, 0}, {1, 1}, {0, 2}} {
						for _, tags := range lists {
							q := impl.Qc{View: view, Height: height, Block: block, Bits: bits, Tags: tags}
							qcCodec.checkOk(t, l, nil, q, writtenQcOk(l, q))
						}
					}
				}
			}
		}
	}
}

func TestQcLimits(t *testing.T) {
	for _, base := range append(someLimits, limitsFor(4)) {
		qcCodec.checkLimits(t, base, qcOfSet(1, base.N))
	}
	qcCodec.checkOk(t, impl.Limits{}, nil, impl.Qc{}, false)
	qcCodec.checkOk(t, limitsFor(4), nil, impl.Qc{}, false)
}

func TestQcOfWrongLimits(t *testing.T) {
	inputs := [][]byte{nil, {}, {0}, {128}, {128, 0}, rawQc(oneQc()), rawQc(oneQc())[:20], rawQc(qcWith(255)), filled(200, 255), filled(200, 0)}
	qcCodec.checkWrongLimits(t, inputs, oneQc(), qcWith(0), impl.Qc{})
}

func TestQcOffsets(t *testing.T) {
	qcCodec.checkOffsets(t, limitsFor(4), rawQc(oneQc()), rawQc(qcWith(0)), filled(300, 1), filled(300, 128))
}

// changedLists are lists that differ from l in one element, in the order of two
// elements that differ, or in their length.
func changedLists(l [][]byte) [][][]byte {
	lists := [][][]byte{append(slices.Clone(l), nil), append(slices.Clone(l), goHash(1)), slices.Concat([][]byte{nil}, l), slices.Concat([][]byte{goHash(1)}, l)}
	for i := range l {
		lists = append(lists, slices.Delete(slices.Clone(l), i, i+1))
		for _, x := range changedBytes(l[i]) {
			changed := slices.Clone(l)
			changed[i] = x
			lists = append(lists, changed)
		}
		for j := range i {
			changed := slices.Clone(l)
			changed[i], changed[j] = l[j], l[i]
			if !bytes.Equal(l[i], l[j]) {
				lists = append(lists, changed)
			}
		}
	}
	if len(l) > 0 {
		lists = append(lists, nil, [][]byte{})
	}
	return lists
}

// otherQcs are certificates that differ from q in one part: in its value, in one
// byte, in one tag, in the order of two tags, or in its length.
func otherQcs(q impl.Qc) []impl.Qc {
	list := changedFields(q, cloneQc, qcNumbers, qcBytes)
	for _, tags := range changedLists(q.Tags) {
		other := cloneQc(q)
		other.Tags = tags
		list = append(list, other)
	}
	return list
}

func TestQcSameOfOneDifference(t *testing.T) {
	odd := []impl.Qc{{}, {View: -7, Height: math.MinInt, Block: []byte{1}, Bits: filled(20, 255)}, {Tags: [][]byte{nil, {}, {5}, goHash(1)}}}
	for _, q := range slices.Concat(odd, []impl.Qc{oneQc(), qcWith(0), qcWith(255, 3), qcWith(1, 2)}) {
		qcCodec.checkDifferences(t, q)
	}
}

// Small certificates meet one another; the same bytes may stand in Block, in
// Bits or in a tag, and be one tag or two.
func TestQcSameOfSmallQcs(t *testing.T) {
	var list []impl.Qc
	parts := [][]byte{nil, {}, {0}, {1}, {0, 0}}
	lists := [][][]byte{nil, {}, {nil}, {{}}, {{0}}, {{0, 0}}, {{0}, {0}}, {{}, {0}}, {{0}, nil}, {nil, {}}}
	for at := range 4 {
		for _, block := range parts {
			for _, bits := range parts {
				for _, tags := range lists {
					list = append(list, impl.Qc{View: at & 1, Height: at >> 1, Block: block, Bits: bits, Tags: tags})
				}
			}
		}
	}
	qcCodec.checkEachPair(t, list)
}

func TestQcOfNil(t *testing.T) {
	l, q := limitsFor(4), oneQc()
	for _, b := range [][]byte{nil, {}} {
		got, ok := impl.PutQc(l, b, q)
		checkPut(t, "PutQc behind nothing", got, ok, rawQc(q))
		qcCodec.checkNoneAt(t, l, b, 0, impl.ErShort)
	}
	none := qcWith(0)
	for _, tags := range [][][]byte{nil, {}} {
		none.Tags = tags
		qcCodec.checkOk(t, l, nil, none, true)
		qcCodec.checkAt(t, l, rawQc(none), 0, none, 36, impl.ErOk)
	}
	for _, x := range [][]byte{nil, {}} {
		for _, y := range [][]byte{nil, {}} {
			for _, tags := range [][][]byte{nil, {}} {
				qcCodec.checkSame(t, impl.Qc{Block: x, Bits: y}, impl.Qc{Block: y, Bits: x, Tags: tags}, true)
				qcCodec.checkSame(t, impl.Qc{Block: x, Bits: y, Tags: tags}, impl.Qc{}, true)
				qcCodec.checkSame(t, impl.Qc{Tags: [][]byte{x, goHash(1)}}, impl.Qc{Tags: [][]byte{y, goHash(1)}}, true)
				qcCodec.checkSame(t, impl.Qc{Tags: [][]byte{x}}, impl.Qc{Tags: tags}, false)
				qcCodec.checkSame(t, impl.Qc{Block: x}, impl.Qc{Block: []byte{0}}, false)
				qcCodec.checkSame(t, impl.Qc{Bits: x}, impl.Qc{Bits: []byte{0}}, false)
				qcCodec.checkOk(t, l, nil, impl.Qc{Block: x, Bits: y, Tags: tags}, false)
				qcCodec.checkOk(t, l, nil, impl.Qc{Block: goHash(1), Bits: y, Tags: tags}, false)
			}
		}
	}
}
