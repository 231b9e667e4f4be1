package tests

import (
	"bytes"
	"fmt"
	"math"
	"slices"
	"testing"

	"loop.example/g00790/impl"
)

// P12 for chapter 13: every function returns what the chapter specifies. The
// tests of QcVotes and QcFrom stand in l12_list_test.go.

// qcNumbers and qcBytes are the fields of a certificate of which a test can change one alone.
var qcNumbers = map[string]func(q *impl.Qc) *int{
	"View":   func(q *impl.Qc) *int { return &q.View },
	"Height": func(q *impl.Qc) *int { return &q.Height },
}

var qcBytes = map[string]func(q *impl.Qc) *[]byte{
	"Block": func(q *impl.Qc) *[]byte { return &q.Block },
	"Bits":  func(q *impl.Qc) *[]byte { return &q.Bits },
}

// tagsFor returns n tags that differ from each other.
func tagsFor(n int) [][]byte {
	var list [][]byte
	for i := range n {
		list = append(list, goHash(9, varint(i)))
	}
	return list
}

// qcWith returns a certificate that has a tag for every set bit.
func qcWith(bits ...byte) impl.Qc {
	q := impl.Qc{View: 300, Height: 2, Block: goHash(7), Bits: bits}
	q.Tags = tagsFor(len(setBits(bits)))
	return q
}

// qcOfSet returns a certificate of the signers of a set, in which signer i is the bit 2^i.
func qcOfSet(set, n int) impl.Qc { return qcWith(bitmapOf(set, n)...) }

// oneQc returns a certificate of three of four validators.
func oneQc() impl.Qc { return qcWith(13) }

func cloneQc(q impl.Qc) impl.Qc {
	q.Block, q.Bits, q.Tags = bytes.Clone(q.Block), bytes.Clone(q.Bits), deepClone(q.Tags)
	return q
}

// someQcs are valid certificates of n validators: of none, of one, of some and of all.
func someQcs(n int) []impl.Qc {
	var list []impl.Qc
	blocks := [][]byte{filled(32, 0), filled(32, 255), mixedBytes(32, 12), goHash(1), filled(32, 128)}
	numbers := edgeNumbers()
	for i, set := range append(someSets(n), 0, 1, 1<<(n-1), 1<<n-1) {
		q := qcOfSet(set, n)
		q.View, q.Height = numbers[i%len(numbers)], numbers[i*7%len(numbers)]
		q.Block = blocks[i%len(blocks)]
		if i%4 == 3 {
			for at := range q.Tags {
				q.Tags[at] = q.Block
			}
		}
		list = append(list, q)
	}
	return list
}

// setBits finds the set bits with divisions only.
func setBits(b []byte) []int {
	var list []int
	for at, c := range b {
		for i := range 8 {
			if c%2 == 1 {
				list = append(list, 8*at+i)
			}
			c /= 2
		}
	}
	return list
}

// writtenBitmap reports whether b is a bitmap of n signers.
func writtenBitmap(b []byte, n int) bool {
	if n < 1 || n > 10 || len(b) != (n+7)/8 {
		return false
	}
	signers := setBits(b)
	return len(signers) == 0 || signers[len(signers)-1] < n
}

func writtenQcOk(l impl.Limits, q impl.Qc) bool {
	numbers := q.View >= 0 && q.View <= 1152921504606846975 && q.Height >= 0 && q.Height <= 1152921504606846975
	if !writtenLimitsOk(l) || !numbers || len(q.Block) != 32 || !writtenBitmap(q.Bits, l.N) || len(q.Tags) != len(setBits(q.Bits)) {
		return false
	}
	for _, tag := range q.Tags {
		if len(tag) != 32 {
			return false
		}
	}
	return true
}

func writtenQcSame(a, b impl.Qc) bool {
	numbers := a.View == b.View && a.Height == b.Height
	return numbers && bytes.Equal(a.Block, b.Block) && bytes.Equal(a.Bits, b.Bits) && sameList(a.Tags, b.Tags)
}

// rawQc puts the parts of a certificate together, valid or not.
func rawQc(q impl.Qc) []byte {
	return slices.Concat(varint(q.View), varint(q.Height), q.Block, q.Bits, slices.Concat(q.Tags...))
}

// writtenGetQc names the parts one by one, as the chapter does.
func writtenGetQc(l impl.Limits, b []byte, at int) (impl.Qc, int, int) {
	none := impl.Qc{}
	if !writtenLimitsOk(l) {
		return none, 0, impl.ErValue
	}
	view, next, er := impl.GetVar(b, at)
	if er != impl.ErOk {
		return none, 0, er
	}
	height, next, er := impl.GetVar(b, next)
	if er != impl.ErOk {
		return none, 0, er
	}
	block, next, er := impl.GetRaw(b, next, 32)
	if er != impl.ErOk {
		return none, 0, er
	}
	bits, next, er := impl.GetBits(b, next, l.N)
	if er != impl.ErOk {
		return none, 0, er
	}
	q := impl.Qc{View: view, Height: height, Block: block, Bits: bits}
	for range setBits(bits) {
		var tag []byte
		tag, next, er = impl.GetRaw(b, next, 32)
		if er != impl.ErOk {
			return none, 0, er
		}
		q.Tags = append(q.Tags, tag)
	}
	return q, next, impl.ErOk
}

// checkQcOk compares QcOk and PutQc behind b with what is wanted.
func checkQcOk(t *testing.T, l impl.Limits, b []byte, q impl.Qc, want bool) {
	t.Helper()
	if got := impl.QcOk(l, q); got != want {
		t.Errorf("QcOk(%+v, %+v) = %v", l, q, got)
	}
	var bytesWanted []byte
	if want {
		bytesWanted = slices.Concat(b, rawQc(q))
	}
	got, ok := impl.PutQc(l, b, q)
	checkPut(t, fmt.Sprintf("PutQc(%+v, %v, %+v)", l, b, q), got, ok, bytesWanted)
}

// checkQcSame asks in both directions.
func checkQcSame(t *testing.T, a, b impl.Qc, want bool) {
	t.Helper()
	if impl.QcSame(a, b) != want || impl.QcSame(b, a) != want {
		t.Errorf("QcSame of %+v and %+v: %v and %v", a, b, impl.QcSame(a, b), impl.QcSame(b, a))
	}
}

// checkQcAt reports what GetQc returns if it is not as wanted.
func checkQcAt(t *testing.T, l impl.Limits, b []byte, at int, want impl.Qc, wantNext, wantEr int) {
	t.Helper()
	q, next, er := impl.GetQc(l, b, at)
	if !writtenQcSame(q, want) || next != wantNext || er != wantEr {
		t.Errorf("GetQc(%+v, %v, %d): %+v, %d, %d instead of %+v, %d, %d", l, b, at, q, next, er, want, wantNext, wantEr)
	}
}

func checkNoQcAt(t *testing.T, l impl.Limits, b []byte, at int, code int) {
	t.Helper()
	checkQcAt(t, l, b, at, impl.Qc{}, 0, code)
}

// checkQcInput compares GetQc with the chapter.
func checkQcInput(t *testing.T, l impl.Limits, b []byte, at int) {
	t.Helper()
	q, next, er := writtenGetQc(l, b, at)
	checkQcAt(t, l, b, at, q, next, er)
}

func TestQcKnown(t *testing.T) {
	block, first, second := filled(32, 7), filled(32, 9), filled(32, 8)
	most := filled(8, 255, 15)
	cases := []struct {
		n    int
		q    impl.Qc
		want []byte
	}{
		{4, impl.Qc{View: 300, Height: 2, Block: block, Bits: []byte{5}, Tags: [][]byte{first, second}}, slices.Concat([]byte{172, 2, 2}, block, []byte{5}, first, second)},
		{4, impl.Qc{View: 3, Height: 1, Block: block, Bits: []byte{10}, Tags: [][]byte{second, first}}, slices.Concat([]byte{3, 1}, block, []byte{10}, second, first)},
		{1, impl.Qc{Block: block, Bits: []byte{0}}, slices.Concat([]byte{0, 0}, block, []byte{0})},
		{1, impl.Qc{Block: block, Bits: []byte{1}, Tags: [][]byte{first}}, slices.Concat([]byte{0, 0}, block, []byte{1}, first)},
		{8, impl.Qc{View: 1, Height: 127, Block: first, Bits: []byte{128}, Tags: [][]byte{block}}, slices.Concat([]byte{1, 127}, first, []byte{128}, block)},
		{9, impl.Qc{View: 128, Height: 16384, Block: block, Bits: []byte{0, 1}, Tags: [][]byte{block}}, slices.Concat([]byte{128, 1, 128, 128, 1}, block, []byte{0, 1}, block)},
		{10, impl.Qc{View: 1152921504606846975, Height: 1152921504606846975, Block: block, Bits: []byte{1, 2}, Tags: [][]byte{first, second}}, slices.Concat(most, most, block, []byte{1, 2}, first, second)},
		{10, impl.Qc{Block: block, Bits: []byte{0, 0}, Tags: [][]byte{}}, slices.Concat([]byte{0, 0}, block, []byte{0, 0})},
	}
	for _, c := range cases {
		l := limitsFor(c.n)
		checkQcOk(t, l, nil, c.q, true)
		got, ok := impl.PutQc(l, nil, c.q)
		checkPut(t, "a known certificate", got, ok, c.want)
		got, ok = impl.PutQc(l, []byte{128, 0}, c.q)
		checkPut(t, "a known certificate behind two bytes", got, ok, slices.Concat([]byte{128, 0}, c.want))
		checkQcAt(t, l, c.want, 0, c.q, len(c.want), impl.ErOk)
		checkQcAt(t, l, slices.Concat([]byte{128, 0}, c.want, []byte{128}), 2, c.q, 2+len(c.want), impl.ErOk)
	}
}

// Every set of signers of every number of validators has a certificate.
func TestQcsOfEverySize(t *testing.T) {
	for n := 1; n <= impl.MaxSigners; n++ {
		for set := range 1 << n {
			q := qcOfSet(set, n)
			checkQcOk(t, limitsFor(n), nil, q, true)
			checkQcAt(t, limitsFor(n), rawQc(q), 0, q, len(rawQc(q)), impl.ErOk)
		}
		for _, q := range someQcs(n) {
			checkQcOk(t, limitsFor(n), nil, q, true)
			checkQcOk(t, limitsFor(n), []byte{0, 255, 128}, q, true)
			checkQcInput(t, limitsFor(n), rawQc(q), 0)
		}
	}
}

// One number takes all its edges while the other parts stay valid.
func TestQcNumbers(t *testing.T) {
	l := limitsFor(4)
	for _, in := range qcNumbers {
		for _, q := range []impl.Qc{oneQc(), qcWith(0)} {
			for _, n := range edgeNumbers() {
				*in(&q) = n
				checkQcOk(t, l, nil, q, true)
				checkQcOk(t, l, []byte{5}, q, true)
				checkQcAt(t, l, rawQc(q), 0, q, len(rawQc(q)), impl.ErOk)
			}
			for _, n := range append(notNumbers, extremes...) {
				*in(&q) = n
				checkQcOk(t, l, nil, q, writtenQcOk(l, q))
				checkQcOk(t, l, []byte{5}, q, writtenQcOk(l, q))
			}
			for _, n := range notNumbers {
				*in(&q) = n
				checkQcOk(t, l, nil, q, false)
				checkNoQcAt(t, l, rawQc(q), 0, impl.ErVar)
			}
		}
	}
}

func TestQcBlocks(t *testing.T) {
	l, q := limitsFor(4), oneQc()
	for size := range 100 {
		q.Block = mixedBytes(size, size)
		checkQcOk(t, l, nil, q, size == 32)
		checkQcOk(t, l, []byte{5}, q, size == 32)
	}
	for _, x := range notHashes() {
		q.Block = x
		checkQcOk(t, l, nil, q, false)
	}
}

// Bits takes all values of up to two bytes, and some of three, for every number of validators.
func TestQcBits(t *testing.T) {
	for n := range 13 {
		l := limitsFor(n)
		for _, bits := range [][]byte{nil, {}, {0, 0, 0}, {1, 0, 0}, {0, 0, 1}, {255, 3, 0}, filled(100, 0)} {
			checkQcOk(t, l, nil, qcWith(bits...), false)
		}
		for c := range 256 {
			q := qcWith(byte(c))
			checkQcOk(t, l, nil, q, n >= 1 && n <= 8 && c < 1<<n)
			checkQcInput(t, l, rawQc(q), 0)
		}
		for c := range 1 << 16 {
			q := impl.Qc{Block: filled(32, 7), Bits: bitmapOf(c, 16)}
			q.Tags = slices.Repeat([][]byte{q.Block}, len(setBits(q.Bits)))
			want := n >= 9 && n <= 10 && c < 1<<n
			if got := impl.QcOk(l, q); got != want {
				t.Errorf("QcOk of the bitmap %v of %d: %v", q.Bits, n, got)
			}
		}
	}
}

// Every set of signers meets every number of tags.
func TestQcTags(t *testing.T) {
	for _, n := range []int{1, 4, 8, 9, 10} {
		for _, set := range someSets(n) {
			q := qcOfSet(set, n)
			count := len(q.Tags)
			for size := range count + 3 {
				q.Tags = tagsFor(size)
				checkQcOk(t, limitsFor(n), nil, q, size == count)
			}
			for _, tags := range [][][]byte{nil, {}} {
				q.Tags = tags
				checkQcOk(t, limitsFor(n), nil, q, count == 0)
			}
		}
	}
}

// A tag at any place, the first and the last among them, is none.
func TestQcTagSizes(t *testing.T) {
	wrong := append(notHashes(), filled(31, 0), filled(33, 0), filled(0, 0))
	for _, n := range []int{1, 3, 8, 9, 10} {
		whole := qcOfSet(1<<n-1, n)
		for at := range whole.Tags {
			for _, tag := range wrong {
				q := cloneQc(whole)
				q.Tags[at] = tag
				checkQcOk(t, limitsFor(n), nil, q, false)
				checkQcOk(t, limitsFor(n), []byte{5}, q, false)
			}
			// The tags have the right number of bytes together.
			q := cloneQc(whole)
			q.Tags[at], q.Tags[(at+1)%n] = filled(31, 1), filled(33, 2)
			checkQcOk(t, limitsFor(n), nil, q, false)
		}
	}
}

// Every part takes valid and other values together with those of all other parts.
func TestQcParts(t *testing.T) {
	numbers := []int{math.MinInt, -1, 0, 5, impl.MaxNum, impl.MaxNum + 1, math.MaxInt}
	blocks := [][]byte{nil, goHash(1), filled(31, 1), filled(33, 1)}
	lists := [][][]byte{nil, {goHash(1)}, {goHash(1), goHash(2)}, {filled(31, 1)}, {goHash(1), filled(33, 1)}, {nil}}
	for _, l := range []impl.Limits{limitsFor(1), limitsFor(2), limitsFor(9), {}} {
		for _, view := range numbers {
			for _, height := range numbers {
				for _, block := range blocks {
					for _, bits := range [][]byte{nil, {0}, {1}, {2}, {3}, {4}, {0, 0}, {1, 1}, {0, 2}} {
						for _, tags := range lists {
							q := impl.Qc{View: view, Height: height, Block: block, Bits: bits, Tags: tags}
							checkQcOk(t, l, nil, q, writtenQcOk(l, q))
						}
					}
				}
			}
		}
	}
}

// Only the number of validators matters, but the other limits must be valid too.
func TestQcLimits(t *testing.T) {
	for _, base := range append(someLimits, limitsFor(4)) {
		q := qcOfSet(1, base.N)
		checkQcOk(t, base, nil, q, true)
		checkQcAt(t, base, rawQc(q), 0, q, len(rawQc(q)), impl.ErOk)
		for _, f := range limitFields {
			for _, n := range f.edges() {
				l := f.with(base, n)
				checkQcOk(t, l, nil, q, writtenQcOk(l, q))
				if f.name != "N" {
					checkQcOk(t, l, nil, q, n >= f.least && n <= f.most)
				}
				checkQcInput(t, l, rawQc(q), 0)
			}
		}
	}
	checkQcOk(t, impl.Limits{}, nil, impl.Qc{}, false)
	checkQcOk(t, limitsFor(4), nil, impl.Qc{}, false)
}

// Limits that are not valid come before all that is wrong with the bytes or the offset.
func TestQcOfWrongLimits(t *testing.T) {
	inputs := [][]byte{nil, {}, {0}, {128}, {128, 0}, rawQc(oneQc()), rawQc(oneQc())[:20], rawQc(qcWith(255)), filled(200, 255), filled(200, 0)}
	for _, l := range wrongLimits() {
		for _, b := range inputs {
			for _, at := range append(extremes, len(b)-1, len(b), len(b)+1) {
				checkNoQcAt(t, l, b, at, impl.ErValue)
			}
			checkQcOk(t, l, b, oneQc(), false)
			checkQcOk(t, l, b, qcWith(0), false)
			checkQcOk(t, l, b, impl.Qc{}, false)
		}
	}
}

func TestQcOffsets(t *testing.T) {
	l := limitsFor(4)
	for _, b := range [][]byte{nil, {}, {0}, rawQc(oneQc()), rawQc(qcWith(0)), filled(300, 1), filled(300, 128)} {
		for at := -5; at < len(b)+5; at++ {
			checkQcInput(t, l, b, at)
		}
		for _, at := range []int{math.MinInt, math.MinInt + 1, -256, -2, -1, len(b), len(b) + 1, len(b) + 256, math.MaxInt - 1, math.MaxInt} {
			checkNoQcAt(t, l, b, at, impl.ErShort)
		}
	}
}

// changedLists are lists that differ from l in one element, in the order of two
// elements that differ, or in their length.
func changedLists(l [][]byte) [][][]byte {
	lists := [][][]byte{append(slices.Clone(l), nil), append(slices.Clone(l), goHash(1)), slices.Concat([][]byte{nil}, l), slices.Concat([][]byte{goHash(1)}, l)}
	for i := range l {
		lists = append(lists, slices.Delete(slices.Clone(l), i, i+1))
		for _, x := range changedBytes(l[i]) {
			changed := slices.Clone(l)
			changed[i] = x
			lists = append(lists, changed)
		}
		for j := range i {
			changed := slices.Clone(l)
			changed[i], changed[j] = l[j], l[i]
			if !bytes.Equal(l[i], l[j]) {
				lists = append(lists, changed)
			}
		}
	}
	if len(l) > 0 {
		lists = append(lists, nil, [][]byte{})
	}
	return lists
}

// otherQcs are certificates that differ from q in one part: in its value, in one
// byte, in one tag, in the order of two tags, or in its length.
func otherQcs(q impl.Qc) []impl.Qc {
	var list []impl.Qc
	for _, in := range qcNumbers {
		for _, n := range changedNumbers(*in(&q)) {
			other := cloneQc(q)
			*in(&other) = n
			list = append(list, other)
		}
	}
	for _, in := range qcBytes {
		for _, x := range changedBytes(*in(&q)) {
			other := cloneQc(q)
			*in(&other) = x
			list = append(list, other)
		}
	}
	for _, tags := range changedLists(q.Tags) {
		other := cloneQc(q)
		other.Tags = tags
		list = append(list, other)
	}
	return list
}

func TestQcSameOfOneDifference(t *testing.T) {
	odd := []impl.Qc{{}, {View: -7, Height: math.MinInt, Block: []byte{1}, Bits: filled(20, 255)}, {Tags: [][]byte{nil, {}, {5}, goHash(1)}}}
	for _, q := range slices.Concat(odd, []impl.Qc{oneQc(), qcWith(0), qcWith(255, 3), qcWith(1, 2)}) {
		checkQcSame(t, q, q, true)
		checkQcSame(t, q, cloneQc(q), true)
		for _, other := range otherQcs(q) {
			checkQcSame(t, q, other, false)
		}
	}
}

// Small certificates meet one another; the same bytes may stand in Block, in
// Bits or in a tag, and be one tag or two.
func TestQcSameOfSmallQcs(t *testing.T) {
	var list []impl.Qc
	parts := [][]byte{nil, {}, {0}, {1}, {0, 0}}
	lists := [][][]byte{nil, {}, {nil}, {{}}, {{0}}, {{0, 0}}, {{0}, {0}}, {{}, {0}}, {{0}, nil}, {nil, {}}}
	for at := range 4 {
		for _, block := range parts {
			for _, bits := range parts {
				for _, tags := range lists {
					list = append(list, impl.Qc{View: at & 1, Height: at >> 1, Block: block, Bits: bits, Tags: tags})
				}
			}
		}
	}
	for _, a := range list {
		for _, b := range list {
			if got := impl.QcSame(a, b); got != writtenQcSame(a, b) {
				t.Errorf("QcSame(%+v, %+v) = %v", a, b, got)
			}
		}
	}
}

func TestQcOfNil(t *testing.T) {
	l, q := limitsFor(4), oneQc()
	for _, b := range [][]byte{nil, {}} {
		got, ok := impl.PutQc(l, b, q)
		checkPut(t, "PutQc behind nothing", got, ok, rawQc(q))
		checkNoQcAt(t, l, b, 0, impl.ErShort)
	}
	none := qcWith(0)
	for _, tags := range [][][]byte{nil, {}} {
		none.Tags = tags
		checkQcOk(t, l, nil, none, true)
		checkQcAt(t, l, rawQc(none), 0, none, 36, impl.ErOk)
	}
	for _, x := range [][]byte{nil, {}} {
		for _, y := range [][]byte{nil, {}} {
			for _, tags := range [][][]byte{nil, {}} {
				checkQcSame(t, impl.Qc{Block: x, Bits: y}, impl.Qc{Block: y, Bits: x, Tags: tags}, true)
				checkQcSame(t, impl.Qc{Block: x, Bits: y, Tags: tags}, impl.Qc{}, true)
				checkQcSame(t, impl.Qc{Tags: [][]byte{x, goHash(1)}}, impl.Qc{Tags: [][]byte{y, goHash(1)}}, true)
				checkQcSame(t, impl.Qc{Tags: [][]byte{x}}, impl.Qc{Tags: tags}, false)
				checkQcSame(t, impl.Qc{Block: x}, impl.Qc{Block: []byte{0}}, false)
				checkQcSame(t, impl.Qc{Bits: x}, impl.Qc{Bits: []byte{0}}, false)
				checkQcOk(t, l, nil, impl.Qc{Block: x, Bits: y, Tags: tags}, false)
				checkQcOk(t, l, nil, impl.Qc{Block: goHash(1), Bits: y, Tags: tags}, false)
			}
		}
	}
}
