package tests

import (
	"fmt"
	"hash/crc32"
	"math"
	"slices"
	"testing"

	"loop.example/g00790/impl"
)

// P12 for chapter 4: every function returns what the chapter specifies.

// notChecksums are ints that are no checksum. The low 32 bits of some of them are not 0.
var notChecksums = []int{math.MinInt, math.MinInt + 7, -1 << 32, -4294967295, -2, -1, 4294967296, 4294967297, 1<<33 - 1, math.MaxInt - 1, math.MaxInt}

var someChecksums = []int{0, 1, 2, 128, 255, 256, 65535, 3421780262, 3988292384, 1 << 31, 1<<31 - 1, 4294967294, 4294967295}

// notZeroCounts are ints that are no number of bytes to shift over. The low bits of some of them are such a number.
var notZeroCounts = []int{math.MinInt, math.MinInt + 1, -1 << 32, -8192, -2, -1, 8193, 8194, 65536, 1 << 32, 1<<32 + 1, math.MaxInt / 8, math.MaxInt - 1, math.MaxInt}

var someZeroCounts = []int{0, 1, 2, 3, 4, 5, 8, 255, 256, 4096, 8191, 8192}

// checkSum reports a checksum that is not as wanted.
func checkSum(t *testing.T, what string, got, want int) {
	t.Helper()
	if got != want {
		t.Errorf("%s: %d instead of %d", what, got, want)
	}
}

// someStrings are byte strings of several lengths.
func someStrings() [][]byte {
	all := make([]byte, 256)
	for i := range all {
		all[i] = byte(i)
	}
	return [][]byte{
		nil, {0}, {1}, {128}, {255}, {0, 0}, {0, 1}, {1, 0}, []byte("abc"), []byte("123456789"),
		filled(4, 255), filled(32, 0), []byte("a vote for a block"), all,
	}
}

func TestKnownChecksums(t *testing.T) {
	if impl.MaxZeros != 8192 {
		t.Errorf("MaxZeros is %d", impl.MaxZeros)
	}
	known := map[string]int{
		"":                      0,
		"a":                     3904355907,
		"abc":                   891568578,
		"123456789":             3421780262,
		"message digest":        538287487,
		"\x00":                  3523407757,
		"\x01":                  2768625435,
		"\x80":                  1069182125,
		"\xff":                  4278190080,
		string(filled(4, 0)):    558161692,
		string(filled(4, 255)):  4294967295,
		string(filled(32, 0)):   420107693,
		string(filled(32, 255)): 4285311755,
		string(filled(8193, 0)): 632835145,
		"The quick brown fox jumps over the lazy dog": 1095738169,
	}
	for s, want := range known {
		what := fmt.Sprintf("Crc(%.20q of %d bytes)", s, len(s))
		checkSum(t, what, impl.Crc([]byte(s)), want)
		checkSum(t, what+" by CrcMore", impl.CrcMore(0, []byte(s)), want)
	}
}

func TestChecksumOfEveryByte(t *testing.T) {
	for c := range 256 {
		b := []byte{byte(c)}
		checkSum(t, fmt.Sprintf("Crc(%v)", b), impl.Crc(b), int(crc32.ChecksumIEEE(b)))
	}
}

func TestCrcMore(t *testing.T) {
	for _, b := range someStrings() {
		for _, c := range someChecksums {
			want := int(crc32.Update(uint32(c), crc32.IEEETable, b))
			checkSum(t, fmt.Sprintf("CrcMore(%d, %v)", c, b), impl.CrcMore(c, b), want)
		}
		for _, c := range notChecksums {
			checkSum(t, fmt.Sprintf("CrcMore(%d, %v)", c, b), impl.CrcMore(c, b), 0)
		}
	}
}

func TestCrcMoreWithoutBytes(t *testing.T) {
	for _, c := range someChecksums {
		checkSum(t, fmt.Sprintf("CrcMore(%d, nil)", c), impl.CrcMore(c, nil), c)
		checkSum(t, fmt.Sprintf("CrcMore(%d, empty)", c), impl.CrcMore(c, []byte{}), c)
	}
}

// shifted takes the steps of the chapter one by one.
func shifted(c, n int) int {
	for range 8 * n {
		odd := c%2 == 1
		c /= 2
		if odd {
			c ^= 3988292384
		}
	}
	return c
}

func TestKnownShifts(t *testing.T) {
	known := []struct{ c, n, want int }{
		{7, 0, 7},
		{1, 0, 1},
		{256, 1, 1},
		{3 << 30, 1, 3 << 22},
		{4294967040, 1, 16777215},
		{128, 1, 3988292384},
		{1, 1, 1996959894},
		{0, 8192, 0},
		{-1, 1, 0},
		{4294967296, 1, 0},
		{7, -1, 0},
		{7, 8193, 0},
	}
	for _, k := range known {
		checkSum(t, fmt.Sprintf("CrcShift(%d, %d)", k.c, k.n), impl.CrcShift(k.c, k.n), k.want)
	}
}

func TestCrcShift(t *testing.T) {
	for _, c := range someChecksums {
		for _, n := range someZeroCounts {
			checkSum(t, fmt.Sprintf("CrcShift(%d, %d)", c, n), impl.CrcShift(c, n), shifted(c, n))
		}
		for _, n := range notZeroCounts {
			checkSum(t, fmt.Sprintf("CrcShift(%d, %d)", c, n), impl.CrcShift(c, n), 0)
		}
	}
	for _, c := range notChecksums {
		for _, n := range slices.Concat(notZeroCounts, someZeroCounts) {
			checkSum(t, fmt.Sprintf("CrcShift(%d, %d)", c, n), impl.CrcShift(c, n), 0)
		}
	}
}

func TestCrcJoin(t *testing.T) {
	for _, a := range someChecksums {
		for _, b := range someChecksums {
			for _, n := range []int{0, 1, 2, 256, 8192} {
				checkSum(t, fmt.Sprintf("CrcJoin(%d, %d, %d)", a, b, n), impl.CrcJoin(a, b, n), shifted(a, n)^b)
			}
		}
	}
}

// The result is 0 if any of the arguments is refused, not the part of the others.
func TestCrcJoinRefuses(t *testing.T) {
	for _, c := range someChecksums {
		for _, bad := range notChecksums {
			for _, n := range someZeroCounts {
				checkSum(t, fmt.Sprintf("CrcJoin(%d, %d, %d)", bad, c, n), impl.CrcJoin(bad, c, n), 0)
				checkSum(t, fmt.Sprintf("CrcJoin(%d, %d, %d)", c, bad, n), impl.CrcJoin(c, bad, n), 0)
			}
			checkSum(t, fmt.Sprintf("CrcJoin(%d, %d, 1)", bad, bad), impl.CrcJoin(bad, bad, 1), 0)
		}
		for _, n := range notZeroCounts {
			checkSum(t, fmt.Sprintf("CrcJoin(%d, 5, %d)", c, n), impl.CrcJoin(c, 5, n), 0)
			checkSum(t, fmt.Sprintf("CrcJoin(5, %d, %d)", c, n), impl.CrcJoin(5, c, n), 0)
		}
	}
}
