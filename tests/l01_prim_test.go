package tests

import (
	"bytes"
	"fmt"
	"math"
	"strings"
	"testing"

	"loop.example/g00790/impl"
)

// P12 for chapter 2: every function returns what the chapter specifies.

func TestPrimConstants(t *testing.T) {
	if impl.MaxNum != 1<<60-1 {
		t.Errorf("MaxNum is %d", impl.MaxNum)
	}
	codes := []int{impl.ErOk, impl.ErShort, impl.ErVar, impl.ErLong, impl.ErPad, impl.ErValue, impl.ErOrder, impl.ErRoot, impl.ErKind, impl.ErLeft}
	names := []string{"ok", "short", "var", "long", "pad", "value", "order", "root", "kind", "left"}
	for i, code := range codes {
		if code != i {
			t.Errorf("the code %s is %d, not %d", names[i], code, i)
		}
		if got := impl.ErName(i); got != names[i] {
			t.Errorf("ErName(%d) = %q", i, got)
		}
	}
	for _, code := range []int{math.MinInt, -1, 10, 11, 256, math.MaxInt} {
		if got := impl.ErName(code); got != "" {
			t.Errorf("ErName(%d) = %q", code, got)
		}
	}
}

func TestPutVar(t *testing.T) {
	cases := []struct {
		n    int
		want []byte
	}{
		{0, []byte{0}},
		{1, []byte{1}},
		{127, []byte{127}},
		{128, []byte{128, 1}},
		{255, []byte{255, 1}},
		{300, []byte{172, 2}},
		{16383, []byte{255, 127}},
		{16384, []byte{128, 128, 1}},
		{1<<56 - 1, filled(7, 255, 127)},
		{1 << 56, filled(8, 128, 1)},
		{impl.MaxNum - 1, append([]byte{254}, filled(7, 255, 15)...)},
		{impl.MaxNum, filled(8, 255, 15)},
		{impl.MaxNum + 1, nil},
		{math.MaxInt, nil},
		{-1, nil},
		{-300, nil},
		{math.MinInt, nil},
	}
	for _, c := range cases {
		got, ok := impl.PutVar(nil, c.n)
		checkPut(t, fmt.Sprintf("PutVar(nil, %d)", c.n), got, ok, c.want)
		if size := impl.VarSize(c.n); size != len(c.want) {
			t.Errorf("VarSize(%d) = %d instead of %d", c.n, size, len(c.want))
		}
		want := c.want
		if want != nil {
			want = append([]byte{200, 0}, want...)
		}
		got, ok = impl.PutVar([]byte{200, 0}, c.n)
		checkPut(t, fmt.Sprintf("PutVar behind two bytes, %d", c.n), got, ok, want)
	}
}

func TestVarSizeGrowsEverySevenBits(t *testing.T) {
	for size := 1; size <= 8; size++ {
		n := 1 << (7 * size)
		if below, above := impl.VarSize(n-1), impl.VarSize(n); below != size || above != size+1 {
			t.Errorf("VarSize at 2^%d: %d and %d", 7*size, below, above)
		}
	}
}

func TestGetVar(t *testing.T) {
	cases := []struct {
		b           []byte
		at          int
		n, next, er int
	}{
		{[]byte{0}, 0, 0, 1, impl.ErOk},
		{[]byte{127}, 0, 127, 1, impl.ErOk},
		{[]byte{128, 1}, 0, 128, 2, impl.ErOk},
		{[]byte{172, 2}, 0, 300, 2, impl.ErOk},
		{[]byte{9, 172, 2, 255}, 1, 300, 3, impl.ErOk},
		{[]byte{128, 0, 5}, 2, 5, 3, impl.ErOk},
		{[]byte{0, 0}, 0, 0, 1, impl.ErOk},
		{filled(8, 255, 15), 0, impl.MaxNum, 9, impl.ErOk},
		{filled(8, 255, 15, 255), 0, impl.MaxNum, 9, impl.ErOk},
		{filled(8, 128, 1), 0, 1 << 56, 9, impl.ErOk},
		{filled(8, 128, 15), 0, 15 << 56, 9, impl.ErOk},

		{nil, 0, 0, 0, impl.ErShort},
		{[]byte{5}, 1, 0, 0, impl.ErShort},
		{[]byte{5}, 2, 0, 0, impl.ErShort},
		{[]byte{5}, math.MaxInt, 0, 0, impl.ErShort},
		{[]byte{5}, -1, 0, 0, impl.ErShort},
		{[]byte{5}, math.MinInt, 0, 0, impl.ErShort},
		{[]byte{128}, 0, 0, 0, impl.ErShort},
		{[]byte{255, 255}, 0, 0, 0, impl.ErShort},
		{filled(8, 255), 0, 0, 0, impl.ErShort},

		{[]byte{128, 0}, 0, 0, 0, impl.ErVar},
		{[]byte{172, 0}, 0, 0, 0, impl.ErVar},
		{[]byte{128, 0, 1}, 0, 0, 0, impl.ErVar},
		{[]byte{128, 128, 0}, 0, 0, 0, impl.ErVar},
		{filled(8, 128, 0), 0, 0, 0, impl.ErVar},
		{filled(8, 255, 16), 0, 0, 0, impl.ErVar},
		{filled(8, 128, 16), 0, 0, 0, impl.ErVar},
		{filled(8, 255, 127), 0, 0, 0, impl.ErVar},
		{filled(9, 128), 0, 0, 0, impl.ErVar},
		{filled(9, 255), 0, 0, 0, impl.ErVar},
		{filled(9, 255, 1), 0, 0, 0, impl.ErVar},
		{filled(9, 128, 1), 0, 0, 0, impl.ErVar},
	}
	for _, c := range cases {
		n, next, er := impl.GetVar(c.b, c.at)
		checkNumber(t, fmt.Sprintf("GetVar(%v, %d)", c.b, c.at), n, next, er, c.n, c.next, c.er)
	}
}

func TestPutFix(t *testing.T) {
	cases := []struct {
		n, w int
		want []byte
	}{
		{0, 1, []byte{0}},
		{255, 1, []byte{255}},
		{258, 2, []byte{2, 1}},
		{258, 3, []byte{2, 1, 0}},
		{0x0708090a0b0c0d, 7, []byte{13, 12, 11, 10, 9, 8, 7}},
		{0, 7, filled(7, 0)},
	}
	for _, c := range cases {
		got, ok := impl.PutFix(nil, c.n, c.w)
		checkPut(t, fmt.Sprintf("PutFix(nil, %d, %d)", c.n, c.w), got, ok, c.want)
		got, ok = impl.PutFix([]byte{6, 5}, c.n, c.w)
		checkPut(t, fmt.Sprintf("PutFix behind two bytes, %d, %d", c.n, c.w), got, ok, append([]byte{6, 5}, c.want...))
	}
	for w := 1; w <= 7; w++ {
		limit := 1 << (8 * w)
		got, ok := impl.PutFix(nil, limit-1, w)
		checkPut(t, fmt.Sprintf("PutFix of the greatest number, width %d", w), got, ok, filled(w, 255))
		for _, n := range []int{limit, limit + 1, math.MaxInt, -1, -limit, math.MinInt} {
			got, ok := impl.PutFix([]byte{1}, n, w)
			checkPut(t, fmt.Sprintf("PutFix(%d, %d)", n, w), got, ok, nil)
		}
	}
	for _, w := range []int{math.MinInt, -8, -1, 0, 8, 9, 64, math.MaxInt} {
		for _, n := range []int{0, 1, impl.MaxNum} {
			got, ok := impl.PutFix([]byte{1}, n, w)
			checkPut(t, fmt.Sprintf("PutFix(%d, %d)", n, w), got, ok, nil)
		}
	}
}

func TestGetFix(t *testing.T) {
	b := []byte{1, 2, 3, 4, 5, 6, 7, 8, 9}
	cases := []struct {
		at, w, n, next, er int
	}{
		{0, 1, 1, 1, impl.ErOk},
		{8, 1, 9, 9, impl.ErOk},
		{1, 2, 0x0302, 3, impl.ErOk},
		{0, 7, 0x07060504030201, 7, impl.ErOk},
		{2, 7, 0x09080706050403, 9, impl.ErOk},
		{3, 7, 0, 0, impl.ErShort},
		{9, 1, 0, 0, impl.ErShort},
		{10, 1, 0, 0, impl.ErShort},
		{-1, 1, 0, 0, impl.ErShort},
		{math.MinInt, 7, 0, 0, impl.ErShort},
		{math.MaxInt, 7, 0, 0, impl.ErShort},
		{0, 0, 0, 0, impl.ErValue},
		{0, 8, 0, 0, impl.ErValue},
		{0, -1, 0, 0, impl.ErValue},
		{0, math.MinInt, 0, 0, impl.ErValue},
		{0, math.MaxInt, 0, 0, impl.ErValue},
		{-1, 0, 0, 0, impl.ErValue},
		{10, 8, 0, 0, impl.ErValue},
	}
	for _, c := range cases {
		n, next, er := impl.GetFix(b, c.at, c.w)
		checkNumber(t, fmt.Sprintf("GetFix(%d, %d)", c.at, c.w), n, next, er, c.n, c.next, c.er)
	}
	n, next, er := impl.GetFix(filled(7, 255), 0, 7)
	checkNumber(t, "GetFix of the greatest number", n, next, er, 1<<56-1, 7, impl.ErOk)
	n, next, er = impl.GetFix(nil, 0, 1)
	checkNumber(t, "GetFix of nothing", n, next, er, 0, 0, impl.ErShort)
}

func TestGetRaw(t *testing.T) {
	b := []byte{4, 5, 6}
	cases := []struct {
		at, n    int
		x        []byte
		next, er int
	}{
		{0, 0, nil, 0, impl.ErOk},
		{0, 3, []byte{4, 5, 6}, 3, impl.ErOk},
		{1, 1, []byte{5}, 2, impl.ErOk},
		{1, 2, []byte{5, 6}, 3, impl.ErOk},
		{3, 0, nil, 3, impl.ErOk},
		{4, 0, nil, 0, impl.ErShort},
		{3, 1, nil, 0, impl.ErShort},
		{1, 3, nil, 0, impl.ErShort},
		{-1, 1, nil, 0, impl.ErShort},
		{-1, 0, nil, 0, impl.ErShort},
		{2, -1, nil, 0, impl.ErShort},
		{0, math.MinInt, nil, 0, impl.ErShort},
		{math.MinInt, 0, nil, 0, impl.ErShort},
		{1, math.MaxInt, nil, 0, impl.ErShort},
		{math.MaxInt, 1, nil, 0, impl.ErShort},
		{math.MaxInt, math.MaxInt, nil, 0, impl.ErShort},
	}
	for _, c := range cases {
		x, next, er := impl.GetRaw(b, c.at, c.n)
		checkBytes(t, fmt.Sprintf("GetRaw(%d, %d)", c.at, c.n), x, next, er, c.x, c.next, c.er)
	}
}

func TestPutText(t *testing.T) {
	cases := []struct {
		b, x, want []byte
	}{
		{nil, nil, []byte{0}},
		{[]byte{9}, []byte{}, []byte{9, 0}},
		{nil, []byte{7, 8}, []byte{2, 7, 8}},
		{[]byte{9, 9}, []byte{0}, []byte{9, 9, 1, 0}},
		{nil, filled(127, 3), append([]byte{127}, filled(127, 3)...)},
		{nil, filled(128, 3), append([]byte{128, 1}, filled(128, 3)...)},
		{[]byte{1}, filled(300, 4), append([]byte{1, 172, 2}, filled(300, 4)...)},
	}
	for _, c := range cases {
		if got := impl.PutText(c.b, c.x); !bytes.Equal(got, c.want) {
			t.Errorf("PutText(%v, %v) = %v", c.b, c.x, got)
		}
	}
}

func TestGetText(t *testing.T) {
	hugeLength := filled(8, 255, 15, 1, 2)
	cases := []struct {
		b        []byte
		at, most int
		x        []byte
		next, er int
	}{
		{[]byte{0}, 0, 0, nil, 1, impl.ErOk},
		{[]byte{2, 7, 8, 9}, 0, 2, []byte{7, 8}, 3, impl.ErOk},
		{[]byte{2, 7, 8, 9}, 0, math.MaxInt, []byte{7, 8}, 3, impl.ErOk},
		{[]byte{5, 1, 7}, 1, 1, []byte{7}, 3, impl.ErOk},
		{append([]byte{128, 1}, filled(128, 6)...), 0, 128, filled(128, 6), 130, impl.ErOk},

		{[]byte{2, 7, 8, 9}, 0, 1, nil, 0, impl.ErLong},
		{[]byte{3, 7, 8}, 0, 2, nil, 0, impl.ErLong},
		{[]byte{0}, 0, -1, nil, 0, impl.ErLong},
		{[]byte{1, 7}, 0, math.MinInt, nil, 0, impl.ErLong},
		{hugeLength, 0, 40, nil, 0, impl.ErLong},

		{[]byte{3, 7, 8}, 0, 3, nil, 0, impl.ErShort},
		{hugeLength, 0, math.MaxInt, nil, 0, impl.ErShort},
		{nil, 0, 5, nil, 0, impl.ErShort},
		{[]byte{1, 7}, 2, 5, nil, 0, impl.ErShort},
		{[]byte{1, 7}, 3, 5, nil, 0, impl.ErShort},
		{[]byte{1, 7}, -1, 5, nil, 0, impl.ErShort},
		{[]byte{1, 7}, math.MinInt, -1, nil, 0, impl.ErShort},
		{[]byte{1, 7}, math.MaxInt, 5, nil, 0, impl.ErShort},
		{[]byte{128}, 0, -1, nil, 0, impl.ErShort},

		{[]byte{128, 0}, 0, 5, nil, 0, impl.ErVar},
		{[]byte{129, 0, 7}, 0, -1, nil, 0, impl.ErVar},
		{filled(8, 255, 16), 0, math.MaxInt, nil, 0, impl.ErVar},
	}
	for _, c := range cases {
		x, next, er := impl.GetText(c.b, c.at, c.most)
		checkBytes(t, fmt.Sprintf("GetText(%v, %d, %d)", c.b, c.at, c.most), x, next, er, c.x, c.next, c.er)
	}
}

func TestNumText(t *testing.T) {
	numbers := map[int]string{0: "0", 7: "7", 10: "10", 4000: "4000", impl.MaxNum: "1152921504606846975"}
	for n, s := range numbers {
		if got := impl.NumText(n); got != s {
			t.Errorf("NumText(%d) = %q", n, got)
		}
		if got, ok := impl.TextNum(s); got != n || !ok {
			t.Errorf("TextNum(%q) = %d, %v", s, got, ok)
		}
	}
	for _, n := range []int{-1, math.MinInt, impl.MaxNum + 1, math.MaxInt} {
		if got := impl.NumText(n); got != "" {
			t.Errorf("NumText(%d) = %q", n, got)
		}
	}
}

func TestTextNumRefuses(t *testing.T) {
	bad := []string{
		"", "-", "+", "-0", "-1", "+0", "+1", "00", "01", "010", " 1", "1 ", "1\n", "1 2",
		"1_0", "0x1", "0b1", "0o7", "1e3", "1.0", "a", "1a", "\x00", "\xff", "1\xff", "\u0661",
		"1152921504606846976", "9223372036854775807", "9223372036854775808",
		"18446744073709551616", "-9223372036854775808", strings.Repeat("9", 400), strings.Repeat("0", 400),
	}
	for _, s := range bad {
		if n, ok := impl.TextNum(s); n != 0 || ok {
			t.Errorf("TextNum(%q) = %d, %v", s, n, ok)
		}
	}
}

func TestHexText(t *testing.T) {
	cases := []struct {
		b []byte
		s string
	}{
		{nil, ""},
		{[]byte{0}, "00"},
		{[]byte{15, 160}, "0fa0"},
		{[]byte{1, 35, 69, 103, 137, 171, 205, 239}, "0123456789abcdef"},
		{[]byte{255, 0, 254}, "ff00fe"},
	}
	for _, c := range cases {
		if got := impl.HexText(c.b); got != c.s {
			t.Errorf("HexText(%v) = %q", c.b, got)
		}
		if got, ok := impl.TextHex(c.s); !ok || !bytes.Equal(got, c.b) {
			t.Errorf("TextHex(%q) = %v, %v", c.s, got, ok)
		}
	}
}

func TestTextHexRefuses(t *testing.T) {
	bad := []string{"0", "000", "0F", "F0", "AA", "0g", "g0", "00g0", "000g", "0 ", " 0", "00 00", "0x", "-1", "+1", "\u00e9", "\xff\xff", "\x00\x00"}
	for _, s := range bad {
		if b, ok := impl.TextHex(s); len(b) != 0 || ok {
			t.Errorf("TextHex(%q) = %v, %v", s, b, ok)
		}
	}
}

// Only the sixteen digits are accepted, in either half of a byte.
func TestTextHexEveryPair(t *testing.T) {
	for x := range 256 {
		for y := range 256 {
			s := string([]byte{byte(x), byte(y)})
			var want []byte
			if v := 0; strings.Trim(s, "0123456789abcdef") == "" {
				_, _ = fmt.Sscanf(s, "%x", &v)
				want = []byte{byte(v)}
			}
			got, ok := impl.TextHex(s)
			checkPut(t, fmt.Sprintf("TextHex(%q)", s), got, ok, want)
		}
	}
}

func TestSameBytes(t *testing.T) {
	cases := []struct {
		a, b []byte
		want bool
	}{
		{nil, nil, true},
		{nil, []byte{}, true},
		{[]byte{1, 2}, []byte{1, 2}, true},
		{roomy([]byte{1, 2}), []byte{1, 2}, true},
		{nil, []byte{0}, false},
		{[]byte{1}, []byte{1, 0}, false},
		{[]byte{1, 2}, []byte{1, 3}, false},
		{[]byte{3, 2}, []byte{1, 2}, false},
		{[]byte{2, 1}, []byte{1, 2}, false},
	}
	for _, c := range cases {
		if impl.SameBytes(c.a, c.b) != c.want || impl.SameBytes(c.b, c.a) != c.want {
			t.Errorf("SameBytes(%v, %v) is not %v", c.a, c.b, c.want)
		}
	}
}
