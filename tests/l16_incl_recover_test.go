package tests

import (
	"slices"
	"testing"

	"loop.example/g00790/impl"
)

// P4 for chapter 17: a transaction proof is recovered from its encoding, and every
// input is the encoding of one valid proof or has its first error.

func TestInclsRecovered(t *testing.T) {
	for n := 1; n <= impl.MaxSigners; n++ {
		for _, l := range blockLimits(n) {
			for _, x := range validIncls(l) {
				inclCodec.checkRecovered(t, l, x)
			}
		}
	}
	for most := range impl.MaxTxs + 1 {
		for _, size := range []int{0, 1, 2, 39, 40} {
			l := impl.Limits{N: 4, Tx: size, Txs: most, Frame: 1, Heads: 3}
			for _, x := range validIncls(l) {
				inclCodec.checkRecovered(t, l, x)
			}
		}
	}
}

func TestHeightsOfInclsRecovered(t *testing.T) {
	for _, n := range someNumbers() {
		for _, x := range []impl.Incl{oneIncl(), inclOf(1, 0, nil)} {
			x.Height = n
			inclCodec.checkRecovered(t, limitsFor(4), x)
		}
	}
}

// Every short transaction is recovered.
func TestShortTxsOfInclsRecovered(t *testing.T) {
	eachInput([]byte{0, 1, 2, 127, 128, 255}, 3, func(b []byte) {
		inclCodec.checkRecovered(t, limitsFor(4), inclOf(3, 1, slices.Clone(b)))
	})
}

func TestRowOfInclsRecovered(t *testing.T) {
	for _, l := range blockLimits(4) {
		inclCodec.checkRow(t, l, validIncls(l))
	}
}

func TestEncodingsOfInclsDiffer(t *testing.T) {
	l := mostFor(4)
	for _, x := range append(validIncls(limitsFor(4)), oneIncl(), inclOf(1, 0, nil), inclOf(8, 7, filled(40, 1))) {
		inclCodec.checkOtherEncodings(t, l, x, validIncls(l))
	}
}

func TestCutIncls(t *testing.T) {
	for _, l := range blockLimits(4) {
		for _, x := range validIncls(l) {
			inclCodec.checkCut(t, l, x)
		}
	}
}

// The height, both numbers of transactions and the length of Tx are wrong or cut off.
func TestWrongNumbersOfIncls(t *testing.T) {
	for _, x := range []impl.Incl{oneIncl(), inclOf(3, 2, nil), inclOf(1, 0, filled(10, 1))} {
		eachWrongNumber(partsOfRawIncl(x), []int{0, 1, 2, 3}, func(b []byte, code int) {
			t.Helper()
			inclCodec.checkNoneAt(t, limitsFor(4), b, 0, code)
		})
	}
}

// No number of transactions, or too large a one, is found before anything behind it is read.
func TestWrongNumbersOfTxs(t *testing.T) {
	for most := range impl.MaxTxs + 1 {
		l := impl.Limits{N: 4, Tx: 10, Txs: most, Frame: 1, Heads: 3}
		for _, x := range []impl.Incl{oneIncl(), inclOf(1, 0, nil), inclOf(8, 7, filled(10, 3))} {
			for _, x.Height = range []int{0, 300, impl.MaxNum} {
				b, end := withPart(partsOfRawIncl(x), 1, varint(0))
				inclCodec.checkCodeFrom(t, l, b, end, impl.ErValue)
				for _, n := range []int{most + 1, most + 2, 9, 100, 127, 128, 255, 256, 1<<8 + most, 1<<20 + most, 1<<32 + most, 1 << 56, impl.MaxNum - 1, impl.MaxNum} {
					b, end := withPart(partsOfRawIncl(x), 1, varint(n))
					inclCodec.checkCodeFrom(t, l, b, end, impl.ErLong)
				}
			}
		}
	}
}

// A place that no transaction has is found before Tx is read.
func TestWrongPlacesOfIncls(t *testing.T) {
	for n := 1; n <= impl.MaxTxs; n++ {
		for _, most := range []int{n, impl.MaxTxs} {
			l := impl.Limits{N: 4, Tx: 10, Txs: most, Frame: 1, Heads: 3}
			for _, at := range []int{n, n + 1, n + 2, 8, 9, 127, 128, 255, 256, 1<<8 + n - 1, 1<<32 + n - 1, 1 << 56, impl.MaxNum} {
				b, end := withPart(partsOfRawIncl(inclOf(n, n-1, []byte{1, 2})), 2, varint(at))
				inclCodec.checkCodeFrom(t, l, b, end, impl.ErValue)
			}
		}
	}
}

// A length that is too large is found before any byte of Tx is read.
func TestTooLongTxsOfIncls(t *testing.T) {
	for most := range impl.MaxTx + 1 {
		l := impl.Limits{N: 4, Tx: most, Txs: 4, Frame: 1, Heads: 3}
		for _, size := range []int{most + 1, most + 2, 41, 127, 128, 256, 1<<8 + most, 1<<32 + most, 1 << 56, impl.MaxNum} {
			b, end := withPart(partsOfRawIncl(inclOf(3, 0, filled(min(size, 129), 2))), 3, varint(size))
			inclCodec.checkCodeFrom(t, l, b, end, impl.ErLong)
		}
	}
}

// Tx has fewer bytes than its length says, and the path fewer hashes than At and N ask for.
func TestInclsBehindTheEnd(t *testing.T) {
	l := mostFor(4)
	for size := 1; size <= 40; size++ {
		for left := range size {
			b, _ := withPart(partsOfRawIncl(inclOf(1, 0, filled(left, 2))), 3, varint(size))
			inclCodec.checkNoneAt(t, l, b, 0, impl.ErShort)
		}
	}
	for n := 1; n <= 8; n++ {
		for at := range n {
			x := inclOf(n, at, []byte{1, 2})
			for len(x.Path) > 0 {
				x.Path = x.Path[1:]
				inclCodec.checkNoneAt(t, l, rawIncl(x), 0, impl.ErShort)
				inclCodec.checkNoneAt(t, l, append(rawIncl(x), filled(31, 1)...), 0, impl.ErShort)
			}
		}
	}
}

// The path of one place stands where another one should, or one more hash:
// what is read is what At and N ask for.
func TestPathsOfOtherPlaces(t *testing.T) {
	l := mostFor(4)
	for n := 1; n <= 8; n++ {
		for at := range n {
			for size := range 5 {
				x := inclOf(n, at, []byte{3})
				want := len(x.Path)
				x.Path = hashesFor(size)
				b := rawIncl(x)
				inclCodec.checkAccepted(t, l, b, 0)
				if size < want {
					inclCodec.checkNoneAt(t, l, b, 0, impl.ErShort)
				} else {
					x.Path = x.Path[:want]
					inclCodec.checkAt(t, l, b, 0, x, len(rawIncl(x)), impl.ErOk)
				}
			}
		}
	}
}

// Two parts are wrong, and the first one has its code.
func TestFirstErrorOfIncls(t *testing.T) {
	wrong, first, second := []byte{128, 0}, filled(32, 7), filled(32, 9)
	inclCodec.checkCodes(t, limitsFor(4), []partsCase{
		{[][]byte{{7}, {3}, {2}, {1, 9}, first}, impl.ErOk},
		{[][]byte{{7}, {3}, {2}, {1, 9}, first, wrong}, impl.ErOk},
		{[][]byte{{7}, {3}, {0}, {1, 9}, first, second}, impl.ErOk},
		{[][]byte{{7}, {1}, {0}, {0}, wrong}, impl.ErOk},
		{[][]byte{wrong, {0}, {9}}, impl.ErVar},
		{[][]byte{wrong}, impl.ErVar},
		{[][]byte{{128}}, impl.ErShort},
		{[][]byte{{7}}, impl.ErShort},
		{[][]byte{{7}, wrong, {9}}, impl.ErVar},
		{[][]byte{{7}, {0}}, impl.ErValue},
		{[][]byte{{7}, {0}, wrong}, impl.ErValue},
		{[][]byte{{7}, {0}, {0}, {0}}, impl.ErValue},
		{[][]byte{{7}, {0}, {9}, {11}}, impl.ErValue},
		{[][]byte{{7}, {5}}, impl.ErLong},
		{[][]byte{{7}, {5}, wrong}, impl.ErLong},
		{[][]byte{{7}, {5}, {5}}, impl.ErLong},
		{[][]byte{{7}, {5}, {0}, {11}}, impl.ErLong},
		{[][]byte{{7}, {133, 0}}, impl.ErVar},
		{[][]byte{{7}, {133}}, impl.ErShort},
		{[][]byte{{7}, {133, 1}}, impl.ErLong},
		{[][]byte{{7}, {3}}, impl.ErShort},
		{[][]byte{{7}, {3}, wrong, {11}}, impl.ErVar},
		{[][]byte{{7}, {3}, {3}}, impl.ErValue},
		{[][]byte{{7}, {3}, {3}, wrong}, impl.ErValue},
		{[][]byte{{7}, {3}, {3}, {11}}, impl.ErValue},
		{[][]byte{{7}, {3}, {131, 1}}, impl.ErValue},
		{[][]byte{{7}, {3}, {130, 0}}, impl.ErVar},
		{[][]byte{{7}, {3}, {131}}, impl.ErShort},
		{[][]byte{{7}, {1}, {1}, {0}}, impl.ErValue},
		{[][]byte{{7}, {4}, {4}, {1, 9}, first, second}, impl.ErValue},
		{[][]byte{{7}, {3}, {2}}, impl.ErShort},
		{[][]byte{{7}, {3}, {2}, wrong, first}, impl.ErVar},
		{[][]byte{{7}, {3}, {2}, {11}}, impl.ErLong},
		{[][]byte{{7}, {3}, {2}, {11}, filled(11, 1), first}, impl.ErLong},
		{[][]byte{{7}, {3}, {2}, {139}}, impl.ErShort},
		{[][]byte{{7}, {3}, {2}, {139, 1}}, impl.ErLong},
		{[][]byte{{7}, {3}, {2}, {10}, filled(9, 1)}, impl.ErShort},
		{[][]byte{{7}, {3}, {2}, {10}, filled(10, 1)}, impl.ErShort},
		{[][]byte{{7}, {3}, {2}, {10}, filled(10, 1), first}, impl.ErOk},
		{[][]byte{{7}, {3}, {2}, {1, 9}, first[:31]}, impl.ErShort},
		{[][]byte{{7}, {3}, {1}, {1, 9}, first, second[:31]}, impl.ErShort},
		{[][]byte{{7}, {3}, {1}, {1, 9}, first}, impl.ErShort},
		{[][]byte{{7}, {3}, {1}, {1, 9}, first, second}, impl.ErOk},
		{[][]byte{{7}, {4}, {3}, {0}, first}, impl.ErShort},
		{[][]byte{{7}, {2}, {1}, {0}, first}, impl.ErOk},
	})
}

// A proof that some limits allow is read with others.
func TestInclOfOtherLimits(t *testing.T) {
	for _, x := range []impl.Incl{inclOf(3, 1, filled(10, 1)), inclOf(8, 7, filled(40, 1)), inclOf(1, 0, nil)} {
		b := rawIncl(x)
		for most := range impl.MaxTxs + 1 {
			for size := range impl.MaxTx + 1 {
				l := impl.Limits{N: 4, Tx: size, Txs: most, Frame: 1, Heads: 3}
				inclCodec.checkAccepted(t, l, b, 0)
				if x.N <= most && len(x.Tx) <= size {
					inclCodec.checkAt(t, l, b, 0, x, len(b), impl.ErOk)
				} else {
					inclCodec.checkNoneAt(t, l, b, 0, impl.ErLong)
				}
			}
		}
	}
}

func TestChangedBytesOfIncls(t *testing.T) {
	for _, l := range []impl.Limits{limitsFor(4), mostFor(4)} {
		for _, x := range []impl.Incl{oneIncl(), inclOf(1, 0, nil), inclOf(3, 2, []byte{5, 6, 7})} {
			inclCodec.checkChangedBytes(t, l, x)
		}
	}
}

func TestShiftedBytesOfIncls(t *testing.T) {
	ones := impl.Incl{Height: 1, N: 2, At: 1, Tx: []byte{1}, Path: [][]byte{filled(32, 1)}}
	for _, x := range []impl.Incl{oneIncl(), inclOf(1, 0, []byte{1}), ones} {
		inclCodec.checkShiftedBytes(t, limitsFor(4), x, 0, 1, 2, 3, 4, 5, 10, 11, 127, 128, 255)
	}
}

// All small numbers meet in the places of Height, N, At and the length of Tx.
func TestSmallNumbersOfIncls(t *testing.T) {
	l, accepted := limitsFor(4), 0
	for height := range 3 {
		for n := range 7 {
			for at := range 7 {
				for size := range 13 {
					b := append([]byte{byte(height), byte(n), byte(at), byte(size)}, filled(74, 1)...)
					inclCodec.checkAccepted(t, l, b, 0)
					inclCodec.checkAccepted(t, l, b[:30], 0)
					if _, _, er := impl.GetIncl(l, b, 0); er == impl.ErOk {
						accepted++
					}
				}
			}
		}
	}
	// N is from 1 to 4, with as many places, and Tx has from 0 to 10 bytes.
	if accepted != 3*(1+2+3+4)*11 {
		t.Errorf("%d inputs are accepted", accepted)
	}
}

// Short strings stand ahead of the path, and between two of its hashes.
func TestInclInputs(t *testing.T) {
	first, second := filled(32, 1), filled(32, 2)
	eachInput([]byte{0, 1, 2, 3, 4, 5, 11, 128, 255}, 4, func(b []byte) {
		for _, rest := range [][]byte{nil, first, first[:31]} {
			inclCodec.checkAccepted(t, limitsFor(4), slices.Concat(b, rest), 0)
			inclCodec.checkAccepted(t, blockLimits(4)[2], slices.Concat(b, rest, second), 0)
		}
	})
	eachInput([]byte{0, 1, 2, 4, 128}, 4, func(b []byte) {
		for _, l := range blockLimits(4) {
			inclCodec.checkAccepted(t, l, slices.Concat([]byte{5, 4, 1, 0}, first, b, second), 0)
			inclCodec.checkAccepted(t, l, slices.Concat([]byte{5, 3}, b, first, second), 0)
		}
		inclCodec.checkAccepted(t, limitsFor(4), slices.Concat(b, []byte{5, 4, 1, 0}, first, second, b), len(b))
	})
}
