package tests

import (
	"slices"
	"testing"

	"loop.example/g00790/impl"
)

// P4 for chapter 16: a timeout certificate is recovered from its encoding, and
// every input is the encoding of one valid certificate or has its first error.

func TestTcsRecovered(t *testing.T) {
	for n := 1; n <= impl.MaxSigners; n++ {
		for _, x := range someTcs(n) {
			tcCodec.checkRecovered(t, limitsFor(n), x)
		}
	}
	for _, l := range someLimits {
		for _, set := range []int{0, 1, 1 << (l.N - 1), 1<<l.N - 1} {
			tcCodec.checkRecovered(t, l, tcOfSet(set))
		}
	}
}

func TestNumbersOfTcsRecovered(t *testing.T) {
	for _, n := range someNumbers() {
		tcCodec.checkRecovered(t, limitsFor(4), impl.Tc{View: n})
		if n > 0 {
			x := oneTc()
			x.View = n
			for i := range x.Entries {
				x.Entries[i].High = (n - 1) >> i
			}
			tcCodec.checkRecovered(t, limitsFor(4), x)
		}
	}
}

func TestRowOfTcsRecovered(t *testing.T) {
	for _, n := range []int{1, 4, 10} {
		tcCodec.checkRow(t, limitsFor(n), someTcs(n))
	}
}

func TestEncodingsOfTcsDiffer(t *testing.T) {
	for _, x := range []impl.Tc{{}, tcBy(0), tcBy(1, 8), tcBy(0, 1, 2, 3, 4, 5, 6, 7, 8, 9), {View: 128, Entries: []impl.Entry{{Tag: filled(32, 1)}, {Who: 1, Tag: filled(32, 1)}}}} {
		tcCodec.checkOtherEncodings(t, limitsFor(10), x, someTcs(10))
	}
}

func TestCutTcs(t *testing.T) {
	for n := 1; n <= impl.MaxSigners; n++ {
		for _, x := range someTcs(n) {
			tcCodec.checkCut(t, limitsFor(n), x)
		}
	}
}

func TestWrongNumbersOfTcs(t *testing.T) {
	l := limitsFor(4)
	eachWrongNumber(partsOfRawTc(tcBy(1, 3)), []int{0, 1, 2, 3, 5, 6}, func(b []byte, code int) {
		t.Helper()
		tcCodec.checkNoneAt(t, l, b, 0, code)
	})
	eachWrongNumber(partsOfRawTc(impl.Tc{View: impl.MaxNum}), []int{0, 1}, func(b []byte, code int) {
		t.Helper()
		tcCodec.checkNoneAt(t, l, b, 0, code)
	})
}

// Too many entries are found before any of them is read: all stand behind, or
// fewer, or none.
func TestTooManyEntries(t *testing.T) {
	for n := 1; n <= impl.MaxSigners; n++ {
		for _, count := range []int{n + 1, n + 2, 127, 128, 256, 256 + n, 1 << 32, 1<<32 + n, 1 << 59, impl.MaxNum} {
			for _, view := range []int{0, 300, impl.MaxNum} {
				whole := slices.Concat(varint(view), varint(count), rawTc(tcOfSet(1<<n - 1))[3:])
				tcCodec.checkCodeFrom(t, limitsFor(n), whole, len(varint(view))+len(varint(count)), impl.ErLong)
			}
		}
	}
}

// whoPart is the place of Who of an entry among the parts of a certificate; High follows.
func whoPart(entry int) int { return 2 + 3*entry }

// A signer that does not exist is found at any entry, before its High is read.
func TestWrongSignersOfEntries(t *testing.T) {
	for n := 1; n <= impl.MaxSigners; n++ {
		for _, x := range []impl.Tc{tcOfSet(1<<n - 1), tcOfSet(1), tcOfSet(1 << (n - 1))} {
			for at := range x.Entries {
				for _, who := range []int{n, n + 1, 127, 128, 1<<32 + n - 1, impl.MaxNum} {
					b, end := withPart(partsOfRawTc(x), whoPart(at), varint(who))
					tcCodec.checkCodeFrom(t, limitsFor(n), b, end, impl.ErValue)
				}
			}
		}
	}
}

// A signer that is not behind the one before is found before its High is read.
func TestEntriesOutOfOrder(t *testing.T) {
	for n := 2; n <= impl.MaxSigners; n++ {
		for _, x := range []impl.Tc{tcOfSet(1<<n - 1), tcBy(0, n-1)} {
			for at := 1; at < len(x.Entries); at++ {
				before := x.Entries[at-1].Who
				for who := 0; who <= before; who++ {
					b, end := withPart(partsOfRawTc(x), whoPart(at), varint(who))
					tcCodec.checkCodeFrom(t, limitsFor(n), b, end, impl.ErOrder)
				}
			}
		}
	}
}

// A view that is not before that of the certificate is found before the tag is read.
func TestWrongHighsOfEntries(t *testing.T) {
	for _, view := range []int{1, 2, 127, 128, 300, 1 << 40, impl.MaxNum} {
		x := tcBy(0, 1, 3, 9)
		x.View = view
		for i := range x.Entries {
			x.Entries[i].High = view - 1
		}
		for at := range x.Entries {
			for _, high := range []int{view, min(view+1, impl.MaxNum), min(view+128, impl.MaxNum), impl.MaxNum} {
				b, end := withPart(partsOfRawTc(x), whoPart(at)+1, varint(high))
				tcCodec.checkCodeFrom(t, limitsFor(10), b, end, impl.ErOrder)
			}
		}
	}
}

// No entry has a High before View 0.
func TestEntriesOfViewZero(t *testing.T) {
	for _, high := range []int{0, 1, 127, 128, impl.MaxNum} {
		b, end := withPart(partsOfRawTc(impl.Tc{Entries: tcBy(2, 3).Entries}), whoPart(0)+1, varint(high))
		tcCodec.checkCodeFrom(t, limitsFor(4), b, end, impl.ErOrder)
	}
}

// Two parts are wrong, and the first one has its code.
func TestFirstErrorOfTcs(t *testing.T) {
	l := limitsFor(4)
	wrong, first, second := []byte{128, 0}, filled(32, 7), filled(32, 9)
	tcCodec.checkCodes(t, l, []partsCase{
		{[][]byte{wrong, {5}, {4, 9}}, impl.ErVar},
		{[][]byte{wrong}, impl.ErVar},
		{[][]byte{{5}, wrong, {4, 9}}, impl.ErVar},
		{[][]byte{{5}}, impl.ErShort},
		{[][]byte{{5}, {5}}, impl.ErLong},
		{[][]byte{{5}, {5}, wrong}, impl.ErLong},
		{[][]byte{{5}, {5}, {4, 9}}, impl.ErLong},
		{[][]byte{{5}, {133, 0}, {4, 9}}, impl.ErVar},
		{[][]byte{{5}, {133, 1}, {4, 9}}, impl.ErLong},
		{[][]byte{{5}, {1}, wrong, wrong}, impl.ErVar},
		{[][]byte{{5}, {1}, {4}, wrong}, impl.ErValue},
		{[][]byte{{5}, {1}, {4, 5}, first}, impl.ErValue},
		{[][]byte{{5}, {1}, {4}}, impl.ErValue},
		{[][]byte{{5}, {1}, {3}, wrong}, impl.ErVar},
		{[][]byte{{5}, {1}, {3, 5}, first}, impl.ErOrder},
		{[][]byte{{5}, {1}, {3, 5}, first[:31]}, impl.ErOrder},
		{[][]byte{{5}, {1}, {3, 5}}, impl.ErOrder},
		{[][]byte{{0}, {1}, {3, 0}}, impl.ErOrder},
		{[][]byte{{0}, {1}, {4, 0}}, impl.ErValue},
		{[][]byte{{5}, {1}, {3, 4}, first[:31]}, impl.ErShort},
		{[][]byte{{5}, {1}, {3, 4}, first}, impl.ErOk},
		{[][]byte{{5}, {1}, {3, 4}, first, wrong}, impl.ErOk},
		{[][]byte{{5}, {0}, wrong}, impl.ErOk},
		{[][]byte{{5}, {2}, {3, 5}, first, {3, 5}}, impl.ErOrder},
		{[][]byte{{5}, {2}, {3, 4}, first[:31]}, impl.ErShort},
		{[][]byte{{5}, {2}, {1, 4}, first}, impl.ErShort},
		{[][]byte{{5}, {2}, {1, 4}, first, wrong}, impl.ErVar},
		{[][]byte{{5}, {2}, {1, 4}, first, {129, 0}}, impl.ErVar},
		{[][]byte{{5}, {2}, {1, 4}, first, {4, 5}}, impl.ErValue},
		{[][]byte{{5}, {2}, {1, 4}, first, {1}}, impl.ErOrder},
		{[][]byte{{5}, {2}, {1, 4}, first, {1}, wrong}, impl.ErOrder},
		{[][]byte{{5}, {2}, {1, 4}, first, {1, 5}, second}, impl.ErOrder},
		{[][]byte{{5}, {2}, {1, 4}, first, {0}, wrong}, impl.ErOrder},
		{[][]byte{{5}, {2}, {1, 4}, first, {2}}, impl.ErShort},
		{[][]byte{{5}, {2}, {1, 4}, first, {2}, wrong}, impl.ErVar},
		{[][]byte{{5}, {2}, {1, 4}, first, {2, 5}}, impl.ErOrder},
		{[][]byte{{5}, {2}, {1, 4}, first, {2, 5}, second[:31]}, impl.ErOrder},
		{[][]byte{{5}, {2}, {1, 4}, first, {2, 0}, second[:31]}, impl.ErShort},
		{[][]byte{{5}, {2}, {1, 4}, first, {2, 0}, second}, impl.ErOk},
		{[][]byte{{5}, {2}, {0, 0}, first, {3, 4}, first}, impl.ErOk},
		{[][]byte{{5}, {3}, {1, 4}, first, {3, 0}, second, {2, 0}, second}, impl.ErOrder},
		{[][]byte{{5}, {3}, {1, 4}, first, {3, 0}, second, {1, 0}, second}, impl.ErOrder},
		{[][]byte{{5}, {3}, {1, 4}, first, {2, 0}, second, {3, 0}, second}, impl.ErOk},
	})
}

// A certificate that some limits allow is read with others.
func TestTcOfOtherLimits(t *testing.T) {
	for from := 1; from <= impl.MaxSigners; from++ {
		for to := 1; to <= impl.MaxSigners; to++ {
			for _, set := range []int{0, 1, 1 << (from - 1), 1<<from - 1, 1 | 1<<(from-1)} {
				x := tcOfSet(set)
				b := rawTc(x)
				tcCodec.checkAccepted(t, limitsFor(to), b, 0)
				switch {
				case len(x.Entries) > to:
					tcCodec.checkNoneAt(t, limitsFor(to), b, 0, impl.ErLong)
				case set < 1<<to:
					tcCodec.checkAt(t, limitsFor(to), b, 0, x, len(b), impl.ErOk)
				default:
					tcCodec.checkNoneAt(t, limitsFor(to), b, 0, impl.ErValue)
				}
			}
		}
	}
}

func TestChangedBytesOfTcs(t *testing.T) {
	for _, x := range []impl.Tc{tcBy(), oneTc(), {View: 5, Entries: []impl.Entry{{Who: 1, High: 3, Tag: filled(32, 255)}, {Who: 2, High: 4, Tag: filled(32, 128)}}}} {
		tcCodec.checkChangedBytes(t, limitsFor(4), x)
	}
}

func TestShiftedBytesOfTcs(t *testing.T) {
	for _, x := range []impl.Tc{tcBy(1, 3), {View: 1 << 50, Entries: []impl.Entry{{High: 200, Tag: filled(32, 1)}, {Who: 1, High: 1, Tag: filled(32, 2)}}}, {}} {
		tcCodec.checkShiftedBytes(t, limitsFor(4), x, 0, 1, 2, 3, 4, 127, 128, 255)
	}
}

// All small numbers meet in the places of View, of the number of entries, and of
// Who and High of two entries.
func TestSmallNumbersOfTcs(t *testing.T) {
	l, tag, accepted := limitsFor(3), filled(32, 1), 0
	for numbers := range 1 << 12 {
		n := func(place int) byte { return byte(numbers >> (2 * place) & 3) }
		b := slices.Concat([]byte{n(0), n(1), n(2), n(3)}, tag, []byte{n(4), n(5)}, tag)
		tcCodec.checkAccepted(t, l, b, 0)
		if _, next, er := impl.GetTc(l, b, 0); er == impl.ErOk && next == len(b) {
			accepted++
		}
	}
	// Two entries, three pairs of signers, and as many pairs of views as View squared.
	if accepted != 3*(1+4+9) {
		t.Errorf("%d inputs with two entries are accepted", accepted)
	}
}

// Short strings stand ahead of a tag, and between two.
func TestTcInputs(t *testing.T) {
	first, second := filled(32, 1), filled(32, 2)
	eachInput([]byte{0, 1, 2, 3, 4, 128, 255}, 5, func(b []byte) {
		for _, rest := range [][]byte{nil, first, first[:31]} {
			tcCodec.checkAccepted(t, limitsFor(3), slices.Concat(b, rest), 0)
		}
	})
	eachInput([]byte{0, 1, 2, 4, 5, 128}, 4, func(b []byte) {
		for _, n := range []int{1, 3, 4, 10} {
			tcCodec.checkAccepted(t, limitsFor(n), slices.Concat([]byte{5, 2, 1, 4}, first, b, second), 0)
			tcCodec.checkAccepted(t, limitsFor(n), slices.Concat([]byte{5, 2, 1, 4}, first, b), 0)
		}
		tcCodec.checkAccepted(t, limitsFor(4), slices.Concat(b, []byte{5, 2, 1, 4}, first, b, second, b), len(b))
	})
}
