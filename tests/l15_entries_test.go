package tests

import (
	"math"
	"slices"
	"testing"

	"loop.example/g00790/impl"
)

// P12 for chapter 16: TcHigh and TcBits return what the chapter specifies.

// tcOfHighs returns a certificate with entries of these views, valid or not.
func tcOfHighs(highs ...int) impl.Tc {
	x := impl.Tc{View: 300}
	for who, high := range highs {
		x.Entries = append(x.Entries, impl.Entry{Who: who, High: high, Tag: goHash(9, varint(who))})
	}
	return x
}

func checkHigh(t *testing.T, x impl.Tc, want int) {
	t.Helper()
	if got := impl.TcHigh(x); got != want {
		t.Errorf("TcHigh(%+v) = %d instead of %d", x, got, want)
	}
}

func TestTcHighKnown(t *testing.T) {
	checkHigh(t, impl.Tc{}, -1)
	checkHigh(t, impl.Tc{View: 9, Entries: []impl.Entry{}}, -1)
	checkHigh(t, impl.Tc{View: math.MinInt}, -1)
	checkHigh(t, tcOfHighs(0), 0)
	checkHigh(t, tcOfHighs(7), 7)
	checkHigh(t, tcOfHighs(4, 2), 4)
	checkHigh(t, tcOfHighs(2, 4), 4)
	checkHigh(t, tcOfHighs(1, 3, 2), 3)
	checkHigh(t, tcOfHighs(5, 5, 5), 5)
	checkHigh(t, tcOfHighs(0, 0, 5, 5, 0), 5)
	checkHigh(t, tcOfHighs(impl.MaxNum-1, 0), impl.MaxNum-1)
}

// The greatest High stands at every place, alone or twice.
func TestTcHighAtEveryPlace(t *testing.T) {
	for n := 1; n <= 20; n++ {
		for at := range n {
			for again := range n {
				highs := slices.Repeat([]int{3}, n)
				highs[at], highs[again] = 200, 200
				checkHigh(t, tcOfHighs(highs...), 200)
				highs[again] = 199
				highs[at] = 200
				checkHigh(t, tcOfHighs(highs...), 200)
			}
		}
	}
}

// A certificate that is not valid has its greatest High too: below 0, below the -1
// of no entries, not less than View, of entries in any order or without tags.
func TestTcHighOfInvalid(t *testing.T) {
	checkHigh(t, tcOfHighs(-1), -1)
	checkHigh(t, tcOfHighs(-2), -2)
	checkHigh(t, tcOfHighs(-5, -3, -4), -3)
	checkHigh(t, tcOfHighs(-3, -4, -5), -3)
	checkHigh(t, tcOfHighs(-5, -4, -3), -3)
	checkHigh(t, tcOfHighs(math.MinInt), math.MinInt)
	checkHigh(t, tcOfHighs(math.MinInt, math.MinInt+1), math.MinInt+1)
	checkHigh(t, tcOfHighs(-1, 0), 0)
	checkHigh(t, tcOfHighs(300, 301, 300), 301)
	checkHigh(t, tcOfHighs(math.MinInt, math.MaxInt, 0), math.MaxInt)
	checkHigh(t, impl.Tc{View: -1, Entries: []impl.Entry{{Who: 9, High: 1}, {Who: 9, High: 2}, {Who: -3, High: 1}}}, 2)
	for _, first := range extremes {
		checkHigh(t, tcOfHighs(first), first)
		for _, second := range extremes {
			for _, third := range extremes {
				x := tcOfHighs(first, second, third)
				x.View = second
				checkHigh(t, x, slices.Max([]int{first, second, third}))
			}
		}
	}
}

// checkTcBits compares TcBits with the chapter, and its bitmap with the functions of chapter 3.
func checkTcBits(t *testing.T, l impl.Limits, x impl.Tc) {
	t.Helper()
	got, ok := impl.TcBits(l, x)
	if !writtenTcOk(l, x) {
		if ok || got != nil {
			t.Errorf("TcBits(%+v, %+v) = %v, %v", l, x, got, ok)
		}
		return
	}
	set := 0
	var signers []int
	for _, e := range x.Entries {
		set += 1 << e.Who
		signers = append(signers, e.Who)
		if !impl.BitsHas(got, e.Who) {
			t.Errorf("TcBits(%+v, %+v) = %v, without %d", l, x, got, e.Who)
		}
	}
	checkPut(t, "TcBits", got, ok, bitmapOf(set, l.N))
	if !impl.BitsOk(got, l.N) || impl.BitsCount(got) != len(x.Entries) || !slices.Equal(impl.BitsList(got), signers) {
		t.Errorf("TcBits(%+v, %+v) = %v, with the signers %v", l, x, got, impl.BitsList(got))
	}
}

func TestTcBitsKnown(t *testing.T) {
	cases := []struct {
		n       int
		signers []int
		want    []byte
	}{
		{1, nil, []byte{0}}, {8, nil, []byte{0}}, {9, nil, []byte{0, 0}}, {1, []int{0}, []byte{1}}, {4, []int{1, 3}, []byte{10}},
		{4, []int{0, 1, 2, 3}, []byte{15}}, {8, []int{0, 7}, []byte{129}}, {9, []int{7, 8}, []byte{128, 1}}, {9, []int{8}, []byte{0, 1}},
		{10, []int{7, 8, 9}, []byte{128, 3}}, {10, []int{9}, []byte{0, 2}}, {10, []int{0, 1, 2, 3, 4, 5, 6, 7, 8, 9}, []byte{255, 3}},
	}
	for _, c := range cases {
		got, ok := impl.TcBits(limitsFor(c.n), tcBy(c.signers...))
		checkPut(t, "a known bitmap", got, ok, c.want)
	}
}

// Every set of validators of every number of them has its bitmap.
func TestTcBitsOfEverySet(t *testing.T) {
	for n := 1; n <= impl.MaxSigners; n++ {
		for set := range 1 << n {
			checkTcBits(t, limitsFor(n), tcOfSet(set))
			got, ok := impl.TcBits(limitsFor(n), tcOfSet(set))
			checkPut(t, "the bitmap of a set", got, ok, bitmapOf(set, n))
		}
		for _, x := range someTcs(n) {
			checkTcBits(t, limitsFor(n), x)
		}
	}
}

func TestTcBitsOfOtherLimits(t *testing.T) {
	for n := -1; n <= impl.MaxSigners+1; n++ {
		for who := -1; who <= impl.MaxSigners+1; who++ {
			checkTcBits(t, limitsFor(n), tcBy(who))
			checkTcBits(t, limitsFor(n), tcBy(0, who))
			checkTcBits(t, limitsFor(n), tcBy(who, n-1))
		}
		checkTcBits(t, limitsFor(n), tcBy())
	}
	for _, base := range append(someLimits, limitsFor(4)) {
		for _, f := range limitFields {
			for _, n := range f.edges() {
				checkTcBits(t, f.with(base, n), tcOfSet(1<<base.N-1))
				checkTcBits(t, f.with(base, n), tcBy())
			}
		}
	}
	checkTcBits(t, impl.Limits{}, impl.Tc{})
}

// A certificate that is not valid has no bitmap, whatever is wrong with it.
func TestTcBitsOfInvalid(t *testing.T) {
	for _, x := range []impl.Tc{tcBy(2, 1), tcBy(1, 1), tcBy(4), tcBy(-1), tcBy(0, 1, 2, 3, 4), {View: -1}, {View: impl.MaxNum + 1}, tcOfHighs(300), tcOfHighs(-1)} {
		if got, ok := impl.TcBits(limitsFor(4), x); ok || got != nil {
			t.Errorf("TcBits(%+v) = %v, %v", x, got, ok)
		}
	}
	for _, x := range append(otherTcs(oneTc()), oddTcs()...) {
		checkTcBits(t, limitsFor(4), x)
	}
}
