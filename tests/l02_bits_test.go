package tests

import (
	"bytes"
	"fmt"
	"math"
	"slices"
	"testing"

	"loop.example/g00790/impl"
)

// P12 for chapter 3: every function returns what the chapter specifies.

func TestBitsSize(t *testing.T) {
	if impl.MaxSigners != 10 {
		t.Errorf("MaxSigners is %d", impl.MaxSigners)
	}
	sizes := map[int]int{
		math.MinInt: 0, -8: 0, -1: 0, 0: 0, 1: 1, 7: 1, 8: 1, 9: 2, 10: 2, 11: 2, 16: 2, 17: 3, 80: 10, 81: 11,
		math.MaxInt - 7: 1<<60 - 1, math.MaxInt - 6: 1 << 60, math.MaxInt: 1 << 60,
	}
	for n, want := range sizes {
		if got := impl.BitsSize(n); got != want {
			t.Errorf("BitsSize(%d) = %d instead of %d", n, got, want)
		}
	}
}

func TestBitsNew(t *testing.T) {
	for n := 1; n <= 10; n++ {
		want := []byte{0}
		if n > 8 {
			want = []byte{0, 0}
		}
		if got := impl.BitsNew(n); !bytes.Equal(got, want) {
			t.Errorf("BitsNew(%d) = %v", n, got)
		}
	}
	for _, n := range notCounts {
		if got := impl.BitsNew(n); len(got) != 0 {
			t.Errorf("BitsNew(%d) = %v", n, got)
		}
	}
}

// notCounts are ints that are no number of signers of a bitmap.
var notCounts = []int{math.MinInt, -9, -8, -1, 0, 11, 12, 15, 16, 17, 256, math.MaxInt - 1, math.MaxInt}

func TestBitsOk(t *testing.T) {
	cases := []struct {
		b    []byte
		n    int
		want bool
	}{
		{[]byte{0}, 1, true},
		{[]byte{1}, 1, true},
		{[]byte{2}, 1, false},
		{[]byte{128}, 1, false},
		{[]byte{7}, 3, true},
		{[]byte{8}, 3, false},
		{[]byte{127}, 7, true},
		{[]byte{128}, 7, false},
		{[]byte{255}, 8, true},
		{[]byte{255, 0}, 8, false},
		{[]byte{255, 1}, 9, true},
		{[]byte{0, 2}, 9, false},
		{[]byte{255, 3}, 10, true},
		{[]byte{0, 4}, 10, false},
		{[]byte{0, 128}, 10, false},

		{nil, 1, false},
		{nil, 8, false},
		{[]byte{0}, 9, false},
		{[]byte{0, 0, 0}, 10, false},
		{[]byte{0, 0}, 1, false},
		{filled(300, 0), 10, false},
	}
	for _, c := range cases {
		if got := impl.BitsOk(c.b, c.n); got != c.want {
			t.Errorf("BitsOk(%v, %d) = %v", c.b, c.n, got)
		}
	}
	for _, n := range notCounts {
		for _, b := range [][]byte{nil, {0}, {1}, {0, 0}, {255, 7}, {0, 0, 0}} {
			if impl.BitsOk(b, n) {
				t.Errorf("BitsOk(%v, %d) is true", b, n)
			}
		}
	}
}

func TestBitsHas(t *testing.T) {
	b := []byte{129, 0, 64, 255}
	set := []int{0, 7, 22, 24, 25, 26, 27, 28, 29, 30, 31}
	for i := -40; i <= 80; i++ {
		if got := impl.BitsHas(b, i); got != slices.Contains(set, i) {
			t.Errorf("BitsHas(%v, %d) = %v", b, i, got)
		}
	}
	full := filled(3, 255)
	for _, i := range []int{math.MinInt, math.MinInt + 1, math.MinInt + 8, -24, -8, -7, -1, 24, 25, 31, 256, math.MaxInt - 7, math.MaxInt} {
		if impl.BitsHas(full, i) {
			t.Errorf("BitsHas(%v, %d) is true", full, i)
		}
	}
	if impl.BitsHas(nil, 0) || impl.BitsHas([]byte{}, 0) {
		t.Error("BitsHas is true without any byte")
	}
}

func TestBitsSet(t *testing.T) {
	cases := []struct {
		b    []byte
		n, i int
		on   bool
		want []byte
	}{
		{[]byte{0}, 1, 0, true, []byte{1}},
		{[]byte{1}, 1, 0, true, []byte{1}},
		{[]byte{1}, 1, 0, false, []byte{0}},
		{[]byte{0}, 1, 0, false, []byte{0}},
		{[]byte{0}, 8, 7, true, []byte{128}},
		{[]byte{255}, 8, 3, false, []byte{247}},
		{[]byte{255, 0}, 9, 8, true, []byte{255, 1}},
		{[]byte{255, 1}, 9, 8, false, []byte{255, 0}},
		{[]byte{1, 2}, 10, 9, false, []byte{1, 0}},
		{[]byte{1, 2}, 10, 0, false, []byte{0, 2}},
		{[]byte{1, 2}, 10, 8, true, []byte{1, 3}},
		{[]byte{1, 2}, 10, 9, true, []byte{1, 2}},

		{[]byte{0}, 1, 1, true, nil},
		{[]byte{0}, 8, 8, true, nil},
		{[]byte{0, 0}, 9, 9, true, nil},
		{[]byte{0, 0}, 9, 15, false, nil},
		{[]byte{0, 0}, 10, 10, true, nil},
		{[]byte{0, 0}, 10, -1, true, nil},
		{[]byte{0, 0}, 10, math.MinInt, false, nil},
		{[]byte{0, 0}, 10, math.MaxInt, false, nil},

		{[]byte{8}, 3, 0, true, nil},
		{[]byte{8}, 3, 3, false, nil},
		{[]byte{0, 4}, 10, 1, true, nil},
		{nil, 3, 0, true, nil},
		{[]byte{0}, 9, 0, true, nil},
		{[]byte{0, 0}, 8, 0, true, nil},
	}
	for _, c := range cases {
		got, ok := impl.BitsSet(c.b, c.n, c.i, c.on)
		checkPut(t, fmt.Sprintf("BitsSet(%v, %d, %d, %v)", c.b, c.n, c.i, c.on), got, ok, c.want)
	}
	for _, n := range notCounts {
		for _, b := range [][]byte{nil, {0}, {0, 0}, {0, 0, 0}} {
			got, ok := impl.BitsSet(b, n, 0, true)
			checkPut(t, fmt.Sprintf("BitsSet(%v, %d, 0, true)", b, n), got, ok, nil)
		}
	}
}

func TestBitsCountAndList(t *testing.T) {
	cases := []struct {
		b    []byte
		list []int
	}{
		{nil, nil},
		{[]byte{0}, nil},
		{[]byte{0, 0, 0}, nil},
		{[]byte{1}, []int{0}},
		{[]byte{128}, []int{7}},
		{[]byte{165}, []int{0, 2, 5, 7}},
		{[]byte{1, 2}, []int{0, 9}},
		{[]byte{0, 255}, []int{8, 9, 10, 11, 12, 13, 14, 15}},
		{[]byte{64, 0, 0, 0, 3}, []int{6, 32, 33}},
	}
	for _, c := range cases {
		if got := impl.BitsList(c.b); !slices.Equal(got, c.list) {
			t.Errorf("BitsList(%v) = %v instead of %v", c.b, got, c.list)
		}
		if got := impl.BitsCount(c.b); got != len(c.list) {
			t.Errorf("BitsCount(%v) = %d instead of %d", c.b, got, len(c.list))
		}
	}
	long := filled(500, 255)
	if got := impl.BitsList(long); len(got) != 4000 || got[0] != 0 || got[3999] != 3999 || impl.BitsCount(long) != 4000 {
		t.Errorf("500 full bytes: %d listed, %d counted", len(got), impl.BitsCount(long))
	}
}

func TestBitsOf(t *testing.T) {
	cases := []struct {
		list []int
		n    int
		want []byte
	}{
		{nil, 1, []byte{0}},
		{nil, 8, []byte{0}},
		{nil, 9, []byte{0, 0}},
		{[]int{0}, 1, []byte{1}},
		{[]int{7}, 8, []byte{128}},
		{[]int{8}, 9, []byte{0, 1}},
		{[]int{0, 9}, 10, []byte{1, 2}},
		{[]int{9, 0}, 10, []byte{1, 2}},
		{[]int{5, 5}, 6, []byte{32}},
		{[]int{2, 1, 2, 8, 1, 8}, 10, []byte{6, 1}},
		{slices.Repeat([]int{3}, 50), 10, []byte{8, 0}},

		{[]int{1}, 1, nil},
		{[]int{8}, 8, nil},
		{[]int{9}, 9, nil},
		{[]int{10}, 10, nil},
		{[]int{15}, 10, nil},
		{[]int{16}, 10, nil},
		{[]int{-1}, 10, nil},
		{[]int{0, 1, -1}, 10, nil},
		{[]int{3, 0, 1}, 3, nil},
		{[]int{math.MinInt}, 10, nil},
		{[]int{1, math.MaxInt}, 10, nil},
	}
	for _, c := range cases {
		got, ok := impl.BitsOf(c.list, c.n)
		checkPut(t, fmt.Sprintf("BitsOf(%v, %d)", c.list, c.n), got, ok, c.want)
	}
	for _, n := range notCounts {
		for _, list := range [][]int{nil, {0}, {10}, {-1}} {
			got, ok := impl.BitsOf(list, n)
			checkPut(t, fmt.Sprintf("BitsOf(%v, %d)", list, n), got, ok, nil)
		}
	}
}

func TestBitsAndOrIn(t *testing.T) {
	cases := []struct {
		a, b, and, or []byte
		in            bool
	}{
		{nil, nil, nil, nil, true},
		{nil, []byte{}, nil, nil, true},
		{[]byte{3}, []byte{6}, []byte{2}, []byte{7}, false},
		{[]byte{2}, []byte{6}, []byte{2}, []byte{6}, true},
		{[]byte{6}, []byte{2}, []byte{2}, []byte{6}, false},
		{[]byte{0}, []byte{0}, []byte{0}, []byte{0}, true},
		{[]byte{0}, []byte{255}, []byte{0}, []byte{255}, true},
		{[]byte{255}, []byte{255}, []byte{255}, []byte{255}, true},
		{[]byte{128}, []byte{127}, []byte{0}, []byte{255}, false},
		{[]byte{1, 2}, []byte{1, 1}, []byte{1, 0}, []byte{1, 3}, false},
		{[]byte{1, 2}, []byte{0, 2}, []byte{0, 2}, []byte{1, 2}, false},
		{[]byte{1, 0}, []byte{3, 2}, []byte{1, 0}, []byte{3, 2}, true},
		{[]byte{9, 8, 255, 0}, []byte{8, 9, 15, 1}, []byte{8, 8, 15, 0}, []byte{9, 9, 255, 1}, false},
		{filled(300, 5), filled(300, 6), filled(300, 4), filled(300, 7), false},

		{nil, []byte{0}, nil, nil, false},
		{[]byte{0}, nil, nil, nil, false},
		{[]byte{1}, []byte{1, 0}, nil, nil, false},
		{[]byte{1, 0}, []byte{1}, nil, nil, false},
		{[]byte{1, 2}, []byte{1, 2, 3}, nil, nil, false},
	}
	for _, c := range cases {
		if got := impl.BitsAnd(c.a, c.b); !bytes.Equal(got, c.and) {
			t.Errorf("BitsAnd(%v, %v) = %v", c.a, c.b, got)
		}
		if got := impl.BitsOr(c.a, c.b); !bytes.Equal(got, c.or) {
			t.Errorf("BitsOr(%v, %v) = %v", c.a, c.b, got)
		}
		if got := impl.BitsIn(c.a, c.b); got != c.in {
			t.Errorf("BitsIn(%v, %v) = %v", c.a, c.b, got)
		}
	}
}

func TestGetBits(t *testing.T) {
	b := []byte{7, 128, 255, 3}
	cases := []struct {
		at, n    int
		x        []byte
		next, er int
	}{
		{0, 3, []byte{7}, 1, impl.ErOk},
		{1, 8, []byte{128}, 2, impl.ErOk},
		{2, 8, []byte{255}, 3, impl.ErOk},
		{2, 10, []byte{255, 3}, 4, impl.ErOk},
		{3, 2, []byte{3}, 4, impl.ErOk},

		{0, 2, nil, 0, impl.ErPad},
		{1, 7, nil, 0, impl.ErPad},
		{2, 9, nil, 0, impl.ErPad},
		{0, 10, nil, 0, impl.ErPad},
		{3, 1, nil, 0, impl.ErPad},

		{4, 1, nil, 0, impl.ErShort},
		{5, 1, nil, 0, impl.ErShort},
		{3, 9, nil, 0, impl.ErShort},
		{4, 10, nil, 0, impl.ErShort},
		{-1, 1, nil, 0, impl.ErShort},
		{-1, 10, nil, 0, impl.ErShort},
		{math.MinInt, 8, nil, 0, impl.ErShort},
		{math.MaxInt, 9, nil, 0, impl.ErShort},
	}
	for _, c := range cases {
		x, next, er := impl.GetBits(b, c.at, c.n)
		checkBytes(t, fmt.Sprintf("GetBits(%d, %d)", c.at, c.n), x, next, er, c.x, c.next, c.er)
	}
	for _, n := range notCounts {
		for _, at := range extremes {
			x, next, er := impl.GetBits(b, at, n)
			checkBytes(t, fmt.Sprintf("GetBits(%d, %d)", at, n), x, next, er, nil, 0, impl.ErValue)
		}
	}
	x, next, er := impl.GetBits(nil, 0, 1)
	checkBytes(t, "GetBits of nothing", x, next, er, nil, 0, impl.ErShort)
}

// No argument makes a function panic, and only the specified ones are accepted.
func TestBitsExtremeArguments(t *testing.T) {
	for _, b := range [][]byte{nil, {0}, {255}, {0, 0}, {255, 3}, {255, 255}, {0, 0, 0}, filled(40, 255)} {
		for _, x := range extremes {
			if impl.BitsHas(b, x) != slices.Contains(impl.BitsList(b), x) {
				t.Errorf("BitsHas(%v, %d) contradicts BitsList", b, x)
			}
			for _, y := range extremes {
				got, ok := impl.BitsSet(b, x, y, true)
				if ok != (impl.BitsOk(b, x) && y >= 0 && y < x) || !ok && len(got) != 0 {
					t.Errorf("BitsSet(%v, %d, %d): %v, %v", b, x, y, got, ok)
				}
				got, ok = impl.BitsOf([]int{0, x}, y)
				if ok != (y >= 1 && y <= 10 && x >= 0 && x < y) || !ok && len(got) != 0 {
					t.Errorf("BitsOf([0 %d], %d): %v, %v", x, y, got, ok)
				}
				got, next, er := impl.GetBits(b, x, y)
				if er != impl.ErOk && (len(got) != 0 || next != 0) {
					t.Errorf("GetBits(%v, %d, %d): %v, %d, %d", b, x, y, got, next, er)
				}
			}
		}
	}
}
