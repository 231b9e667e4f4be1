package tests

import (
	"bytes"
	"math"
	"slices"
	"testing"

	"loop.example/g00790/impl"
)

// P12 for chapter 17: the functions of transaction proofs return what the chapter specifies.

// inclNumbers are the fields of a transaction proof of which a test can change
// one alone; Tx and Path are the others.
var inclNumbers = map[string]func(x *impl.Incl) *int{
	"Height": func(x *impl.Incl) *int { return &x.Height },
	"N":      func(x *impl.Incl) *int { return &x.N },
	"At":     func(x *impl.Incl) *int { return &x.At },
}

var inclBytes = map[string]func(x *impl.Incl) *[]byte{
	"Tx": func(x *impl.Incl) *[]byte { return &x.Tx },
}

// inclOf returns a proof of transaction number at of n, whose path has as many
// hashes as it takes.
func inclOf(n, at int, tx []byte) impl.Incl {
	return impl.Incl{Height: 300, N: n, At: at, Tx: tx, Path: hashesFor(writtenLen(at, n))}
}

// oneIncl returns a proof of the second of four transactions.
func oneIncl() impl.Incl { return inclOf(4, 1, []byte{7, 8}) }

func cloneIncl(x impl.Incl) impl.Incl {
	x.Tx, x.Path = bytes.Clone(x.Tx), deepClone(x.Path)
	return x
}

// txSizes are the lengths of transactions that the limits allow: none, one, some and the most.
func txSizes(l impl.Limits) []int {
	sizes := []int{0, min(1, l.Tx), l.Tx / 2, l.Tx}
	return slices.Compact(sizes)
}

// validIncls are proofs for each number of transactions that the limits allow,
// and for each of them; they have transactions of several lengths.
func validIncls(l impl.Limits) []impl.Incl {
	var list []impl.Incl
	heights := edgeNumbers()
	for n := 1; n <= l.Txs; n++ {
		for at := range n {
			for i, size := range txSizes(l) {
				x := inclOf(n, at, mixedBytes(size, n+at))
				x.Height = heights[(n*7+at+i)%len(heights)]
				switch (n + at + i) % 4 {
				case 2:
					x.Path = slices.Repeat([][]byte{filled(32, 255)}, len(x.Path))
				case 3:
					x.Path = slices.Repeat([][]byte{filled(32, 0)}, len(x.Path))
				}
				list = append(list, x)
			}
		}
	}
	return list
}

func writtenInclOk(l impl.Limits, x impl.Incl) bool {
	numbers := x.Height >= 0 && x.Height <= 1152921504606846975 && x.N >= 1 && x.N <= l.Txs && x.At >= 0 && x.At <= x.N-1
	if !writtenLimitsOk(l) || !numbers || len(x.Tx) > l.Tx || len(x.Path) != writtenLen(x.At, x.N) {
		return false
	}
	notHash := func(h []byte) bool { return len(h) != 32 }
	return !slices.ContainsFunc(x.Path, notHash)
}

func writtenInclSame(a, b impl.Incl) bool {
	numbers := a.Height == b.Height && a.N == b.N && a.At == b.At
	return numbers && bytes.Equal(a.Tx, b.Tx) && sameList(a.Path, b.Path)
}

// partsOfRawIncl are the encodings of all parts of a transaction proof: three
// numbers, the length and the bytes of Tx, and the elements of Path.
func partsOfRawIncl(x impl.Incl) [][]byte {
	parts := [][]byte{varint(x.Height), varint(x.N), varint(x.At), varint(len(x.Tx)), x.Tx}
	return append(parts, x.Path...)
}

// rawIncl puts the parts of a transaction proof together, valid or not.
func rawIncl(x impl.Incl) []byte { return slices.Concat(partsOfRawIncl(x)...) }

// writtenGetIncl names the parts one by one, as the chapter does.
func writtenGetIncl(l impl.Limits, b []byte, at int) (impl.Incl, int, int) {
	none := impl.Incl{}
	if !writtenLimitsOk(l) {
		return none, 0, impl.ErValue
	}
	height, next, er := impl.GetVar(b, at)
	if er != impl.ErOk {
		return none, 0, er
	}
	n, next, er := impl.GetVar(b, next)
	if er != impl.ErOk {
		return none, 0, er
	}
	if n == 0 {
		return none, 0, impl.ErValue
	}
	if n > l.Txs {
		return none, 0, impl.ErLong
	}
	place, next, er := impl.GetVar(b, next)
	if er != impl.ErOk {
		return none, 0, er
	}
	if place >= n {
		return none, 0, impl.ErValue
	}
	tx, next, er := impl.GetText(b, next, l.Tx)
	if er != impl.ErOk {
		return none, 0, er
	}
	x := impl.Incl{Height: height, N: n, At: place, Tx: tx}
	for range writtenLen(place, n) {
		var h []byte
		h, next, er = impl.GetRaw(b, next, 32)
		if er != impl.ErOk {
			return none, 0, er
		}
		x.Path = append(x.Path, h)
	}
	return x, next, impl.ErOk
}

// otherIncls are proofs that differ from x in one number, in one byte of Tx or of
// the path, in the order of two hashes, or in a length.
func otherIncls(x impl.Incl) []impl.Incl {
	list := changedFields(x, cloneIncl, inclNumbers, inclBytes)
	for _, path := range changedLists(x.Path) {
		other := cloneIncl(x)
		other.Path = path
		list = append(list, other)
	}
	return list
}

var inclCodec = codec[impl.Incl]{
	name: "Incl", ok: impl.InclOk, same: impl.InclSame, put: impl.PutIncl, get: impl.GetIncl,
	writtenOk: writtenInclOk, writtenSame: writtenInclSame, writtenGet: writtenGetIncl, raw: rawIncl,
	others: otherIncls, clone: cloneIncl, hold: holdIncl, parts: partsOfIncl, ruin: overwriteIncl,
}

func TestInclKnown(t *testing.T) {
	first, second, third := filled(32, 7), filled(32, 8), filled(32, 9)
	most := filled(8, 255, 15)
	cases := []struct {
		l    impl.Limits
		x    impl.Incl
		want []byte
	}{
		{limitsFor(4), impl.Incl{Height: 7, N: 3, At: 2, Tx: []byte{9}, Path: [][]byte{first}}, slices.Concat([]byte{7, 3, 2, 1, 9}, first)},
		{limitsFor(4), impl.Incl{Height: 300, N: 3, At: 0, Tx: []byte{9, 8}, Path: [][]byte{first, second}}, slices.Concat([]byte{172, 2, 3, 0, 2, 9, 8}, first, second)},
		{limitsFor(1), impl.Incl{N: 1}, []byte{0, 1, 0, 0}},
		{limitsFor(1), impl.Incl{Height: 1, N: 1, Tx: filled(10, 5), Path: [][]byte{}}, slices.Concat([]byte{1, 1, 0, 10}, filled(10, 5))},
		{limitsFor(10), impl.Incl{Height: 1152921504606846975, N: 4, At: 3, Path: [][]byte{second, second}}, slices.Concat(most, []byte{4, 3, 0}, second, second)},
		{mostFor(4), impl.Incl{Height: 128, N: 8, At: 7, Tx: filled(40, 1), Path: [][]byte{first, second, third}}, slices.Concat([]byte{128, 1, 8, 7, 40}, filled(40, 1), first, second, third)},
		{mostFor(4), impl.Incl{Height: 127, N: 5, At: 4, Tx: []byte{0}, Path: [][]byte{third}}, slices.Concat([]byte{127, 5, 4, 1, 0}, third)},
		{mostFor(4), impl.Incl{Height: 127, N: 7, At: 6, Tx: []byte{255}, Path: [][]byte{third, first}}, slices.Concat([]byte{127, 7, 6, 1, 255}, third, first)},
	}
	for _, c := range cases {
		inclCodec.checkKnown(t, c.l, c.x, c.want)
	}
}

// Each limit of the number and of the length of transactions has its proofs.
func TestInclsOfEverySize(t *testing.T) {
	for most := range impl.MaxTxs + 1 {
		for size := range impl.MaxTx + 1 {
			l := impl.Limits{N: 4, Tx: size, Txs: most, Frame: 1, Heads: 3}
			for _, x := range validIncls(l) {
				inclCodec.checkValid(t, l, x)
			}
		}
	}
	for n := 1; n <= impl.MaxSigners; n++ {
		for _, l := range blockLimits(n) {
			for _, x := range validIncls(l) {
				inclCodec.checkValid(t, l, x)
			}
		}
	}
}

// The path of a block's transaction, as BlockPath returns it, makes a proof of
// it that leads to Root.
func TestInclsOfBlocks(t *testing.T) {
	for _, l := range blockLimits(4) {
		for _, block := range validBlocks(l) {
			for at, tx := range block.Txs {
				path, _ := impl.BlockPath(l, block, at)
				x := impl.Incl{Height: block.Head.Height, N: len(block.Txs), At: at, Tx: tx, Path: path}
				inclCodec.checkValid(t, l, x)
				got, _, _ := impl.GetIncl(l, rawIncl(x), 0)
				if !impl.PathOk(got.Tx, got.At, got.N, got.Path, block.Head.Root) {
					t.Errorf("the proof of transaction %d of %+v: %+v", at, block, got)
				}
			}
		}
	}
}

func TestInclHeights(t *testing.T) {
	l := limitsFor(4)
	for _, x := range []impl.Incl{oneIncl(), inclOf(1, 0, nil), inclOf(3, 2, filled(10, 1))} {
		for _, x.Height = range append(edgeNumbers(), 2, 300) {
			inclCodec.checkValid(t, l, x)
		}
		for _, x.Height = range notNumbers {
			inclCodec.checkInvalid(t, l, x)
			inclCodec.checkNoneAt(t, l, rawIncl(x), 0, impl.ErVar)
		}
		for _, x.Height = range extremes {
			inclCodec.checkOk(t, l, nil, x, x.Height >= 0 && x.Height < 1000)
		}
	}
}

// checkPlace is for a proof of which only N and At may be wrong.
func checkPlace(t *testing.T, l impl.Limits, x impl.Incl) {
	t.Helper()
	code := impl.ErValue
	switch {
	case x.N >= 1 && x.N <= l.Txs && x.At >= 0 && x.At < x.N:
		inclCodec.checkValid(t, l, x)
		return
	case x.N < 0 || x.N > impl.MaxNum:
		code = impl.ErVar
	case x.N > l.Txs:
		code = impl.ErLong
	case x.N > 0 && (x.At < 0 || x.At > impl.MaxNum):
		code = impl.ErVar
	}
	inclCodec.checkInvalid(t, l, x)
	inclCodec.checkNoneAt(t, l, rawIncl(x), 0, code)
}

// Each N meets each At and each limit.
func TestInclPlaces(t *testing.T) {
	counts := slices.Concat([]int{2, 3, 4, 5, 6, 7, 8, 9, 10, 16, 255, 256, 257}, edgeNumbers(), notNumbers)
	for most := range impl.MaxTxs + 1 {
		l := impl.Limits{N: 4, Tx: 10, Txs: most, Frame: 1, Heads: 3}
		for _, n := range counts {
			for _, at := range slices.Concat([]int{-1, 0, n / 2, n - 2, n - 1, n, n + 1, most, math.MinInt, math.MaxInt}, counts) {
				checkPlace(t, l, inclOf(n, at, []byte{1, 2}))
			}
		}
	}
}

// Tx is of every length, at every limit of it.
func TestInclTxs(t *testing.T) {
	for most := range impl.MaxTx + 1 {
		l := impl.Limits{N: 4, Tx: most, Txs: 4, Frame: 1, Heads: 3}
		for _, size := range []int{0, 1, most - 1, most, most + 1, most + 2, 40, 41, 127, 128, 129, 300, 5000} {
			for _, x := range []impl.Incl{inclOf(1, 0, mixedBytes(max(size, 0), most)), inclOf(4, 2, mixedBytes(max(size, 0), 1))} {
				if size <= most {
					inclCodec.checkValid(t, l, x)
					continue
				}
				inclCodec.checkInvalid(t, l, x)
				inclCodec.checkNoneAt(t, l, rawIncl(x), 0, impl.ErLong)
			}
		}
	}
}

// The path has too few hashes or too many, for each place.
func TestInclPathLengths(t *testing.T) {
	l := mostFor(4)
	for n := 1; n <= 8; n++ {
		for at := range n {
			x := inclOf(n, at, []byte{1})
			for size := range 40 {
				x.Path = hashesFor(size)
				inclCodec.checkOk(t, l, nil, x, size == writtenLen(at, n))
				inclCodec.checkOk(t, l, []byte{5}, x, size == writtenLen(at, n))
			}
		}
	}
}

// A hash at any place of the path has another length.
func TestInclHashes(t *testing.T) {
	l := mostFor(4)
	for n := 2; n <= 8; n++ {
		for at := range n {
			for place := range writtenLen(at, n) {
				for _, h := range append(notHashes(), nil, []byte{}, filled(31, 0), filled(33, 0)) {
					x := inclOf(n, at, []byte{1})
					x.Path[place] = h
					inclCodec.checkInvalid(t, l, x)
				}
				for size := range 70 {
					x := inclOf(n, at, nil)
					x.Path[place] = mixedBytes(size, size)
					inclCodec.checkOk(t, l, nil, x, size == 32)
				}
				// All hashes have the right number of bytes together.
				x := inclOf(n, at, []byte{1})
				if next := place + 1; next < len(x.Path) {
					x.Path[place], x.Path[next] = filled(31, 1), filled(33, 2)
					inclCodec.checkInvalid(t, l, x)
				}
			}
		}
	}
}

// Every part takes valid and other values together with those of all other parts.
func TestInclParts(t *testing.T) {
	numbers := []int{math.MinInt, -1, 0, 1, 2, 3, impl.MaxNum, impl.MaxNum + 1, math.MaxInt}
	paths := [][][]byte{nil, {}, hashesFor(1), {nil}, {filled(33, 1)}, hashesFor(2), {goHash(1), filled(31, 1)}, hashesFor(3)}
	for _, l := range []impl.Limits{limitsFor(4), blockLimits(4)[0], blockLimits(4)[1], blockLimits(4)[2], {N: 4, Tx: 41, Txs: 4, Frame: 1, Heads: 3}, {N: 4, Tx: 10, Txs: 9, Frame: 1, Heads: 3}, {}} {
		for _, height := range numbers {
			for _, n := range numbers {
				for _, at := range numbers {
					for _, tx := range [][]byte{nil, {}, {1}, filled(10, 1), filled(11, 1)} {
						for _, path := range paths {
							x := impl.Incl{Height: height, N: n, At: at, Tx: tx, Path: path}
							inclCodec.checkOk(t, l, nil, x, writtenInclOk(l, x))
						}
					}
				}
			}
		}
	}
}

// Each limit takes all its edges. Tx and Txs matter, and the others must be valid too.
func TestInclLimits(t *testing.T) {
	for _, base := range append(someLimits, limitsFor(4)) {
		for _, x := range append(validIncls(base), inclOf(1, 0, nil), inclOf(8, 5, filled(40, 1))) {
			for _, f := range limitFields {
				for _, n := range f.edges() {
					l := f.with(base, n)
					inclCodec.checkOk(t, l, nil, x, writtenInclOk(l, x))
					inclCodec.checkInput(t, l, rawIncl(x), 0)
					if f.name == "N" || f.name == "Frame" || f.name == "Heads" {
						inclCodec.checkOk(t, l, nil, x, n >= f.least && n <= f.most && writtenInclOk(base, x))
					}
				}
			}
		}
	}
	inclCodec.checkInvalid(t, impl.Limits{}, impl.Incl{})
	inclCodec.checkInvalid(t, limitsFor(4), impl.Incl{})
}

func TestInclOfWrongLimits(t *testing.T) {
	inputs := [][]byte{nil, {}, {0}, {128}, {128, 0}, {7, 0}, {7, 5}, {7, 3, 3}, rawIncl(oneIncl()), rawIncl(oneIncl())[:40], rawIncl(inclOf(9, 1, nil)), rawIncl(inclOf(4, 1, filled(41, 1))), filled(100, 255), filled(100, 0), filled(100, 1)}
	inclCodec.checkWrongLimits(t, inputs, oneIncl(), inclOf(1, 0, nil), inclOf(9, 1, nil), inclOf(4, 4, nil), inclOf(4, 1, filled(41, 1)), impl.Incl{})
}

func TestInclOffsets(t *testing.T) {
	inclCodec.checkOffsets(t, limitsFor(4), rawIncl(oneIncl()), rawIncl(inclOf(1, 0, []byte{1})), filled(200, 1), filled(200, 128))
}

func TestInclSameOfOneDifference(t *testing.T) {
	odd := []impl.Incl{{}, {Height: -7, N: math.MinInt, At: math.MaxInt, Tx: filled(50, 3), Path: [][]byte{nil, {}, {5}, goHash(1)}}}
	for _, x := range slices.Concat(odd, []impl.Incl{oneIncl(), inclOf(1, 0, nil), inclOf(9, 3, []byte{1})}, validIncls(mostFor(4))) {
		inclCodec.checkDifferences(t, x)
	}
}

// Small proofs meet one another; the same bytes may stand in Tx or in the path,
// and be one hash or two, the same number in any field.
func TestInclSameOfSmallIncls(t *testing.T) {
	var list []impl.Incl
	for at := range 8 {
		for _, tx := range [][]byte{nil, {}, {0}, {1}, {0, 0}} {
			for _, path := range [][][]byte{nil, {}, {nil}, {{}}, {{0}}, {{0, 0}}, {{0}, {0}}, {{}, {0}}, {{0}, nil}, {nil, {}}} {
				list = append(list, impl.Incl{Height: at & 1, N: at >> 1 & 1, At: at >> 2, Tx: tx, Path: path})
			}
		}
	}
	inclCodec.checkEachPair(t, list)
}

func TestInclOfNil(t *testing.T) {
	l := limitsFor(4)
	for _, b := range [][]byte{nil, {}} {
		inclCodec.checkOk(t, l, b, oneIncl(), true)
		inclCodec.checkNoneAt(t, l, b, 0, impl.ErShort)
		x := inclOf(1, 0, b)
		for _, x.Path = range [][][]byte{nil, {}, make([][]byte, 0, 3)} {
			inclCodec.checkValid(t, l, x)
			inclCodec.checkSame(t, x, inclOf(1, 0, nil), true)
			inclCodec.checkSame(t, x, inclOf(1, 0, []byte{0}), false)
		}
		for _, x.Path = range [][][]byte{{nil}, {{}}} {
			inclCodec.checkInvalid(t, l, x)
			inclCodec.checkSame(t, x, inclOf(1, 0, nil), false)
			inclCodec.checkSame(t, impl.Incl{Path: x.Path}, impl.Incl{Path: [][]byte{b}}, true)
		}
	}
}
