package tests

import (
	"bytes"
	"math"
	"testing"
)

const (
	spareSize = 16
	spareByte = 238
	scribble  = 85
)

// extremes are ints at which an offset or a length can overflow or leave a slice.
var extremes = []int{math.MinInt, math.MinInt + 1, -256, -1, 0, 1, 2, 3, 7, 8, 9, 255, 256, math.MaxInt - 1, math.MaxInt}

// roomy returns a slice equal to b with spare capacity that append would write to.
func roomy(b []byte) []byte {
	all := append(bytes.Clone(b), bytes.Repeat([]byte{spareByte}, spareSize)...)
	return all[:len(b)]
}

// checkRoomy reports a change of the elements of got or of its spare capacity.
func checkRoomy(t *testing.T, what string, got []byte, want []byte) {
	t.Helper()
	all := got[:cap(got)]
	if !bytes.Equal(all[:len(want)], want) {
		t.Errorf("%s: the argument became %v, not %v", what, all[:len(want)], want)
	}
	for _, c := range all[len(want) : len(want)+spareSize] {
		if c != spareByte {
			t.Errorf("%s: the spare capacity of the argument was changed", what)
			return
		}
	}
}

// checkPure calls f on roomy arguments and reports whether it changes them,
// whether its result shares memory with them, and whether a changed result
// changes that of the next call.
func checkPure(t *testing.T, what string, f func(args [][]byte) []byte, args ...[]byte) {
	t.Helper()
	given := make([][]byte, len(args))
	for i, a := range args {
		given[i] = roomy(a)
	}
	first := f(given)
	want := bytes.Clone(first)
	for i, a := range args {
		checkRoomy(t, what, given[i], a)
	}
	all := first[:cap(first)]
	for i := range all {
		all[i] = scribble
	}
	for i, a := range args {
		checkRoomy(t, what+", its result overwritten", given[i], a)
	}
	if again := f(given); !bytes.Equal(again, want) {
		t.Errorf("%s: the second call returns %v, the first %v", what, again, want)
	}
}

// filled returns n equal bytes followed by more.
func filled(n int, c byte, more ...byte) []byte {
	return append(bytes.Repeat([]byte{c}, n), more...)
}

// checkNumber reports a decoded number that is not as wanted.
func checkNumber(t *testing.T, what string, n, next, er, wantN, wantNext, wantEr int) {
	t.Helper()
	if n != wantN || next != wantNext || er != wantEr {
		t.Errorf("%s: %d, %d, %d instead of %d, %d, %d", what, n, next, er, wantN, wantNext, wantEr)
	}
}

// checkBytes reports decoded bytes that are not as wanted.
func checkBytes(t *testing.T, what string, x []byte, next, er int, wantX []byte, wantNext, wantEr int) {
	t.Helper()
	if !bytes.Equal(x, wantX) || next != wantNext || er != wantEr {
		t.Errorf("%s: %v, %d, %d instead of %v, %d, %d", what, x, next, er, wantX, wantNext, wantEr)
	}
}

// checkPut reports a result of a Put function that is not as wanted; want is nil for a refusal.
func checkPut(t *testing.T, what string, got []byte, ok bool, want []byte) {
	t.Helper()
	if ok != (want != nil) || !bytes.Equal(got, want) {
		t.Errorf("%s: %v, %v instead of %v", what, got, ok, want)
	}
}
