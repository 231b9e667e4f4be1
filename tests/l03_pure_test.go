package tests

import (
	"testing"

	"loop.example/g00790/impl"
)

// Chapter 1 for chapter 4: arguments and their spare capacity stay unchanged,
// results depend on the arguments only, and no function panics.

// sumBytes makes a checksum comparable with those of other calls by checkPure.
func sumBytes(c int) []byte {
	b, _ := impl.PutVar(nil, c)
	return b
}

func TestCrcPure(t *testing.T) {
	for _, b := range someStrings() {
		checkPure(t, "Crc", func(a [][]byte) []byte { return sumBytes(impl.Crc(a[0])) }, b)
		for _, c := range []int{-1, 0, 1, 4294967295, 4294967296} {
			checkPure(t, "CrcMore", func(a [][]byte) []byte { return sumBytes(impl.CrcMore(c, a[0])) }, b)
		}
	}
}

// A refused call between two others leaves nothing behind.
func TestCrcKeepsNoState(t *testing.T) {
	first := impl.CrcMore(5, []byte("block"))
	impl.CrcMore(-1, []byte("other"))
	impl.CrcShift(9, impl.MaxZeros)
	impl.CrcJoin(1, 2, -1)
	checkSum(t, "CrcMore after other calls", impl.CrcMore(5, []byte("block")), first)
}

func TestCrcOfExtremes(t *testing.T) {
	isCount := func(n int) bool { return n >= 0 && n <= 8192 }
	isSum := func(c int) bool { return c >= 0 && c <= 4294967295 }
	for _, a := range extremes {
		if got := impl.CrcMore(a, []byte("block")); !isSum(got) || !isSum(a) && got != 0 {
			t.Errorf("CrcMore(%d, ..) = %d", a, got)
		}
		for _, n := range extremes {
			if got := impl.CrcShift(a, n); !isSum(got) || !(isSum(a) && isCount(n)) && got != 0 {
				t.Errorf("CrcShift(%d, %d) = %d", a, n, got)
			}
			for _, b := range extremes {
				if got := impl.CrcJoin(a, b, n); !isSum(got) || !(isSum(a) && isSum(b) && isCount(n)) && got != 0 {
					t.Errorf("CrcJoin(%d, %d, %d) = %d", a, b, n, got)
				}
			}
		}
	}
}
