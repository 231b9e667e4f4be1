package tests

import (
	"bytes"
	"fmt"
	"testing"

	"loop.example/g00790/impl"
)

// P6 for chapter 4: checksums can be continued and combined, and a changed byte
// changes the checksum.

// checkCut checks that the checksum of x and y together follows from those of its parts.
func checkCut(t *testing.T, x, y []byte) {
	t.Helper()
	what := fmt.Sprintf("%d bytes and %d bytes", len(x), len(y))
	whole := impl.Crc(append(bytes.Clone(x), y...))
	checkSum(t, what+" continued", impl.CrcMore(impl.Crc(x), y), whole)
	checkSum(t, what+" combined", impl.CrcJoin(impl.Crc(x), impl.Crc(y), len(y)), whole)
}

func TestChecksumOfTwoParts(t *testing.T) {
	for _, b := range someStrings() {
		for cut := range len(b) + 1 {
			checkCut(t, b[:cut], b[cut:])
		}
	}
}

func TestChecksumOfTwoStrings(t *testing.T) {
	for _, x := range someStrings() {
		for _, y := range someStrings() {
			checkCut(t, x, y)
		}
	}
}

// The second part may have up to MaxZeros bytes; the first one may be longer.
func TestChecksumOfLongParts(t *testing.T) {
	for _, n := range []int{8191, 8192} {
		checkCut(t, []byte("123456789"), filled(n, 77))
		checkCut(t, filled(10000, 200, 1, 2, 3), filled(n, 0))
		checkCut(t, nil, filled(n, 255))
	}
	long := filled(8193, 77)
	first := impl.Crc([]byte("123456789"))
	checkSum(t, "a second part of 8193 bytes", impl.CrcJoin(first, impl.Crc(long), len(long)), 0)
}

// Any division into pieces gives the checksum of the whole.
func TestChecksumOfManyParts(t *testing.T) {
	for _, b := range someStrings() {
		want := impl.Crc(b)
		for size := 1; size <= len(b)+1; size++ {
			continued, combined := 0, 0
			for rest := b; len(rest) > 0; {
				piece := rest[:min(size, len(rest))]
				rest = rest[len(piece):]
				continued = impl.CrcMore(continued, piece)
				combined = impl.CrcJoin(combined, impl.Crc(piece), len(piece))
			}
			what := fmt.Sprintf("%d bytes in pieces of %d", len(b), size)
			checkSum(t, what+" continued", continued, want)
			checkSum(t, what+" combined", combined, want)
		}
	}
}

// It does not matter which two neighbors of three are combined first.
func TestCombiningIsAssociative(t *testing.T) {
	x, y, z := []byte("a vote"), []byte{0, 0, 255}, []byte("123456789")
	a, b, c := impl.Crc(x), impl.Crc(y), impl.Crc(z)
	left := impl.CrcJoin(impl.CrcJoin(a, b, len(y)), c, len(z))
	right := impl.CrcJoin(a, impl.CrcJoin(b, c, len(z)), len(y)+len(z))
	whole := impl.Crc(bytes.Join([][]byte{x, y, z}, nil))
	checkSum(t, "the left pair first", left, whole)
	checkSum(t, "the right pair first", right, whole)
}

func TestShiftsAdd(t *testing.T) {
	for _, c := range someChecksums {
		for _, n := range []int{0, 1, 5, 4096} {
			for _, m := range []int{0, 1, 3, 4096} {
				what := fmt.Sprintf("CrcShift of %d by %d and %d", c, n, m)
				checkSum(t, what, impl.CrcShift(impl.CrcShift(c, n), m), impl.CrcShift(c, n+m))
			}
		}
	}
}

// All strings that differ from b in one certain byte, b among them, have different checksums.
func TestChangedByteChangesChecksum(t *testing.T) {
	for _, b := range someStrings() {
		for at := range b {
			changed := bytes.Clone(b)
			seen := map[int]int{}
			for c := range 256 {
				changed[at] = byte(c)
				sum := impl.Crc(changed)
				if other, ok := seen[sum]; ok {
					t.Errorf("%d bytes with %d or %d at %d: both have the checksum %d", len(b), other, c, at, sum)
				}
				seen[sum] = c
			}
		}
	}
}

func TestChangedByteOfLongString(t *testing.T) {
	b := filled(9000, 33)
	want := impl.Crc(b)
	for _, at := range []int{0, 1, 4095, 8191, 8192, 8999} {
		for bit := range 8 {
			changed := bytes.Clone(b)
			changed[at] ^= 1 << bit
			if impl.Crc(changed) == want {
				t.Errorf("the bit %d of byte %d does not change the checksum", bit, at)
			}
		}
	}
}

// Different checksums stay different when they are continued over the same bytes.
func TestContinuedChecksumsDiffer(t *testing.T) {
	for _, b := range someStrings() {
		seen := map[int]int{}
		for _, c := range someChecksums {
			sum := impl.CrcMore(c, b)
			if other, ok := seen[sum]; ok {
				t.Errorf("%d and %d continued over %v are both %d", other, c, b, sum)
			}
			seen[sum] = c
		}
	}
}
