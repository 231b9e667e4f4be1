package tests

import (
	"bytes"
	"fmt"
	"slices"
	"testing"

	"loop.example/g00790/impl"
)

// P4 for chapter 13: a certificate is recovered from its encoding, and every
// input is the encoding of one valid certificate or has its first error.

// checkQcRecovered writes q behind each surrounding and reads it in front of each.
func checkQcRecovered(t *testing.T, l impl.Limits, q impl.Qc) {
	t.Helper()
	for _, ahead := range surroundings {
		b, ok := impl.PutQc(l, ahead, q)
		if !ok || !bytes.HasPrefix(b, ahead) {
			t.Errorf("PutQc(%+v, %v, %+v) = %v, %v", l, ahead, q, b, ok)
		}
		for _, behind := range surroundings {
			checkQcAt(t, l, slices.Concat(b, behind), len(ahead), q, len(b), impl.ErOk)
		}
	}
}

// checkAcceptedQc reports an input that is accepted, but is not what PutQc writes
// of the certificate, or one whose first error is another.
func checkAcceptedQc(t *testing.T, l impl.Limits, b []byte, at int) {
	t.Helper()
	checkQcInput(t, l, b, at)
	q, next, er := impl.GetQc(l, b, at)
	if er != impl.ErOk {
		return
	}
	only, ok := impl.PutQc(l, nil, q)
	if !ok || !impl.QcOk(l, q) || !bytes.Equal(only, b[at:next]) {
		t.Errorf("GetQc(%+v, %v, %d) is %+v, which is encoded as %v, %v", l, b, at, q, only, ok)
	}
}

func TestQcsRecovered(t *testing.T) {
	for n := 1; n <= impl.MaxSigners; n++ {
		for _, q := range someQcs(n) {
			checkQcRecovered(t, limitsFor(n), q)
		}
	}
	for _, l := range someLimits {
		for _, set := range []int{0, 1, 1 << (l.N - 1), 1<<l.N - 1} {
			checkQcRecovered(t, l, qcOfSet(set, l.N))
		}
	}
}

func TestNumbersOfQcsRecovered(t *testing.T) {
	for _, n := range someNumbers() {
		q := oneQc()
		q.View = n
		checkQcRecovered(t, limitsFor(4), q)
		q.View, q.Height = q.Height, n
		checkQcRecovered(t, limitsFor(4), q)
	}
}

// Certificates stand one behind the other, each where the one before it ends.
func TestRowOfQcsRecovered(t *testing.T) {
	for _, n := range []int{1, 4, 10} {
		l, list := limitsFor(n), someQcs(n)
		var b []byte
		for _, q := range list {
			b, _ = impl.PutQc(l, b, q)
		}
		at := 0
		for _, q := range list {
			checkQcAt(t, l, b, at, q, at+len(rawQc(q)), impl.ErOk)
			at += len(rawQc(q))
		}
		checkNoQcAt(t, l, b, at, impl.ErShort)
	}
}

// No two certificates have one encoding, and none begins with that of another.
func TestEncodingsOfQcsDiffer(t *testing.T) {
	l := limitsFor(10)
	for _, q := range []impl.Qc{qcWith(0, 0), qcWith(5, 2), qcWith(255, 3), {View: 128, Height: 128, Block: filled(32, 0), Bits: []byte{1, 0}, Tags: [][]byte{filled(32, 1)}}} {
		b, _ := impl.PutQc(l, nil, q)
		for _, other := range append(otherQcs(q), someQcs(10)...) {
			x, ok := impl.PutQc(l, nil, other)
			if ok && !impl.QcSame(q, other) && (bytes.HasPrefix(b, x) || bytes.HasPrefix(x, b)) {
				t.Errorf("%+v and %+v have the encodings %v and %v", q, other, b, x)
			}
		}
	}
}

// A proper prefix of an encoding could still become a certificate, so it is too short.
func TestCutQcs(t *testing.T) {
	for n := 1; n <= impl.MaxSigners; n++ {
		for _, q := range someQcs(n) {
			b := rawQc(q)
			for end := range b {
				checkNoQcAt(t, limitsFor(n), b[:end], 0, impl.ErShort)
			}
		}
	}
	b := slices.Concat(filled(9, 1), rawQc(oneQc()))
	for end := 9; end < len(b); end++ {
		checkNoQcAt(t, limitsFor(4), b[:end], 9, impl.ErShort)
	}
}

func TestWrongNumbersOfQcs(t *testing.T) {
	l, q := limitsFor(4), qcWith(9)
	parts := [][]byte{varint(q.View), varint(q.Height), q.Block, q.Bits, slices.Concat(q.Tags...)}
	eachWrongNumber(parts, []int{0, 1}, func(b []byte, code int) {
		t.Helper()
		checkNoQcAt(t, l, b, 0, code)
	})
}

// paddedBits are byte strings as long as a bitmap of n signers, with a bit set at n or behind it.
func paddedBits(n int) [][]byte {
	var list [][]byte
	size := (n + 7) / 8
	for i := n; i < 8*size; i++ {
		for _, set := range []int{0, 1, 1<<n - 1} {
			list = append(list, bitmapOf(set|1<<i, 8*size))
		}
	}
	if n%8 > 0 {
		list = append(list, filled(size, 255))
	}
	return list
}

// A bit without a signer is found before any tag is read: as many as the set
// bits stand behind, or fewer, or none.
func TestWrongBitsOfQcs(t *testing.T) {
	for n := 1; n <= impl.MaxSigners; n++ {
		l := limitsFor(n)
		for _, bits := range paddedBits(n) {
			q := qcWith(bits...)
			b := rawQc(q)
			tags := 32 * len(q.Tags)
			for end := range len(b) + 1 {
				want := impl.ErPad
				if end < len(b)-tags {
					want = impl.ErShort
				}
				checkNoQcAt(t, l, b[:end], 0, want)
			}
			checkNoQcAt(t, l, append(b, 1, 2, 3), 0, impl.ErPad)
			checkNoQcAt(t, l, append([]byte{128, 0}, b...), 2, impl.ErPad)
		}
	}
}

// Two parts are wrong, and the first one has its code.
func TestFirstErrorOfQcs(t *testing.T) {
	l, q := limitsFor(4), qcWith(5)
	wrong, padded := []byte{128, 0}, []byte{16}
	view, height, first, second := varint(q.View), varint(q.Height), q.Tags[0], q.Tags[1]
	cases := []struct {
		parts [][]byte
		code  int
	}{
		{[][]byte{wrong, wrong, q.Block, padded, first}, impl.ErVar},
		{[][]byte{wrong, height, q.Block, padded, first}, impl.ErVar},
		{[][]byte{wrong}, impl.ErVar},
		{[][]byte{view, wrong, q.Block, padded, first}, impl.ErVar},
		{[][]byte{view, wrong, q.Block[:31]}, impl.ErVar},
		{[][]byte{view, wrong}, impl.ErVar},
		{[][]byte{view, height, q.Block[:31]}, impl.ErShort},
		{[][]byte{view, height, q.Block}, impl.ErShort},
		{[][]byte{view, height, q.Block, padded}, impl.ErPad},
		{[][]byte{view, height, q.Block, padded, first[:31]}, impl.ErPad},
		{[][]byte{view, height, q.Block, padded, first, second}, impl.ErPad},
		{[][]byte{view, height, q.Block, {21}, first, second}, impl.ErPad},
		{[][]byte{view, height, q.Block, {5}}, impl.ErShort},
		{[][]byte{view, height, q.Block, {5}, first[:31]}, impl.ErShort},
		{[][]byte{view, height, q.Block, {5}, first}, impl.ErShort},
		{[][]byte{view, height, q.Block, {5}, first, second[:31]}, impl.ErShort},
		{[][]byte{view, height, q.Block, {7}, first, second}, impl.ErShort},
		{[][]byte{view, height, q.Block, {5}, first, second}, impl.ErOk},
		{[][]byte{view, height, q.Block, {4}, first, second}, impl.ErOk},
		{[][]byte{view, height, q.Block, {0}, first, second}, impl.ErOk},
	}
	for i, c := range cases {
		b := slices.Concat(c.parts...)
		if _, _, er := impl.GetQc(l, b, 0); er != c.code {
			t.Errorf("case %d: the code is %d instead of %d", i, er, c.code)
		}
		checkQcInput(t, l, b, 0)
		checkNoQcAt(t, impl.Limits{N: 4}, b, 0, impl.ErValue)
	}
}

// A certificate of other validators is read with the bitmap that the limits ask for.
func TestQcOfOtherLimits(t *testing.T) {
	for from := 1; from <= impl.MaxSigners; from++ {
		for to := 1; to <= impl.MaxSigners; to++ {
			for _, set := range []int{0, 1, 1 << (from - 1), 1<<from - 1} {
				q := qcOfSet(set, from)
				b, ok := impl.PutQc(limitsFor(from), nil, q)
				checkPut(t, fmt.Sprintf("a certificate of %d", from), b, ok, rawQc(q))
				checkAcceptedQc(t, limitsFor(to), b, 0)
				sameSize := (from > 8) == (to > 8)
				switch {
				case sameSize && set < 1<<to:
					checkQcAt(t, limitsFor(to), b, 0, q, len(b), impl.ErOk)
				case sameSize:
					checkNoQcAt(t, limitsFor(to), b, 0, impl.ErPad)
				}
			}
		}
	}
}

// Every byte takes all its values; what is accepted then is another certificate.
func TestChangedBytesOfQcs(t *testing.T) {
	for _, q := range []impl.Qc{qcWith(0), oneQc(), {View: 5, Height: 1 << 40, Block: filled(32, 255), Bits: []byte{1}, Tags: [][]byte{filled(32, 128)}}} {
		whole := rawQc(q)
		for i := range whole {
			for c := range 256 {
				b := append(bytes.Clone(whole), filled(40, 7)...)
				b[i] = byte(c)
				checkAcceptedQc(t, limitsFor(4), b[:len(whole)], 0)
				checkAcceptedQc(t, limitsFor(4), b, 0)
				got, _, er := impl.GetQc(limitsFor(4), b, 0)
				if er == impl.ErOk && impl.QcSame(got, q) != (b[i] == whole[i]) {
					t.Errorf("byte %d of %v replaced by %d: %+v", i, whole, c, got)
				}
			}
		}
	}
}

// A byte is missing, or one more stands somewhere.
func TestShiftedBytesOfQcs(t *testing.T) {
	for _, q := range []impl.Qc{qcWith(6), {View: 1 << 50, Height: 200, Block: mixedBytes(32, 1), Bits: []byte{8}, Tags: [][]byte{mixedBytes(32, 2)}}} {
		whole := rawQc(q)
		for i := range len(whole) + 1 {
			for at := range len(whole) + 1 {
				checkAcceptedQc(t, limitsFor(4), append(bytes.Clone(whole[:i]), whole[min(i+1, len(whole)):]...), at)
			}
			for _, c := range []byte{0, 1, 15, 16, 127, 128, 255} {
				checkAcceptedQc(t, limitsFor(4), slices.Concat(whole[:i], []byte{c}, whole[i:]), 0)
				checkAcceptedQc(t, limitsFor(4), slices.Concat(whole[:i], []byte{c}, whole[i:], []byte{c}), 1)
			}
		}
	}
}

// Short strings stand for the numbers before Block, and for the bitmap behind it.
func TestQcInputs(t *testing.T) {
	block, tags := filled(32, 1), slices.Concat(tagsFor(3)...)
	eachInput([]byte{0, 1, 3, 8, 127, 128, 129, 255}, 4, func(b []byte) {
		for _, rest := range [][]byte{nil, filled(20, 0), slices.Concat(block, []byte{7}, tags), slices.Concat(block, []byte{7}, tags[:95])} {
			checkAcceptedQc(t, limitsFor(4), slices.Concat(b, rest), 0)
		}
		for _, n := range []int{1, 3, 8, 9, 10} {
			checkAcceptedQc(t, limitsFor(n), slices.Concat([]byte{1, 2}, block, b, tags), 0)
			checkAcceptedQc(t, limitsFor(n), slices.Concat([]byte{1, 2}, block, b), 0)
		}
		checkAcceptedQc(t, limitsFor(4), slices.Concat([]byte{5, 6, 7}, b, block, []byte{5}, tags, b), 3)
	})
}
