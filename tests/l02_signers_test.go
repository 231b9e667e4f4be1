package tests

import (
	"bytes"
	"fmt"
	"slices"
	"testing"

	"loop.example/g00790/impl"
)

// P5 for chapter 3: a bitmap identifies exactly its signers, and AND and OR are
// the intersection and the union of the signers. Below, a set of signers is an
// int in which signer i is the bit 2^i.

func signersIn(set int) []int {
	var list []int
	for i := 0; i < 62; i++ {
		if set>>i&1 == 1 {
			list = append(list, i)
		}
	}
	return list
}

// bitmapOf returns the bytes that chapter 3 gives a set of n signers.
func bitmapOf(set, n int) []byte {
	if n <= 8 {
		return []byte{byte(set)}
	}
	return []byte{byte(set), byte(set >> 8)}
}

func TestBitmapIdentifiesItsSigners(t *testing.T) {
	for n := 1; n <= impl.MaxSigners; n++ {
		for set := range 1 << n {
			list := signersIn(set)
			b, ok := impl.BitsOf(list, n)
			checkPut(t, fmt.Sprintf("the bitmap of %v of %d", list, n), b, ok, bitmapOf(set, n))
			if got := impl.BitsList(b); !slices.Equal(got, list) {
				t.Errorf("the bitmap of %v of %d has the signers %v", list, n, got)
			}
			if got := impl.BitsCount(b); got != len(list) {
				t.Errorf("the bitmap of %v of %d has %d signers", list, n, got)
			}
			checkMembers(t, b, n, list)
		}
	}
}

func checkMembers(t *testing.T, b []byte, n int, list []int) {
	t.Helper()
	for i := -1; i <= 8*len(b); i++ {
		if got := impl.BitsHas(b, i); got != slices.Contains(list, i) {
			t.Errorf("BitsHas(%v, %d) = %v", b, i, got)
		}
	}
	back := slices.Clone(list)
	slices.Reverse(back)
	twice := append(back, list...)
	same, ok := impl.BitsOf(twice, n)
	checkPut(t, fmt.Sprintf("the bitmap of %v of %d", twice, n), same, ok, b)
}

// Only the bitmaps of sets of signers are bitmaps, and GetBits returns these only.
func TestEveryBitmapHasItsSigners(t *testing.T) {
	for n := 1; n <= impl.MaxSigners; n++ {
		size := (n + 7) / 8
		for all := range 1 << (8 * size) {
			b := bitmapOf(all, 8*size)
			valid := all < 1<<n
			if impl.BitsOk(b, n) != valid {
				t.Errorf("BitsOk(%v, %d) is not %v", b, n, valid)
			}
			x, next, er := impl.GetBits(b, 0, n)
			what := fmt.Sprintf("GetBits(%v, 0, %d)", b, n)
			if !valid {
				checkBytes(t, what, x, next, er, nil, 0, impl.ErPad)
				continue
			}
			checkBytes(t, what, x, next, er, b, size, impl.ErOk)
			if only, ok := impl.BitsOf(impl.BitsList(b), n); !ok || !bytes.Equal(only, b) {
				t.Errorf("the signers of %v have the bitmap %v", b, only)
			}
		}
	}
}

func TestOneSignerChanged(t *testing.T) {
	for _, n := range []int{1, 7, 8, 9, 10} {
		for set := range 1 << n {
			b := bitmapOf(set, n)
			for i := range n {
				on, okOn := impl.BitsSet(b, n, i, true)
				checkPut(t, fmt.Sprintf("%d added to %v", i, b), on, okOn, bitmapOf(set|1<<i, n))
				off, okOff := impl.BitsSet(b, n, i, false)
				checkPut(t, fmt.Sprintf("%d taken from %v", i, b), off, okOff, bitmapOf(set&^(1<<i), n))
			}
		}
	}
}

// someSets returns all sets of few signers, and every 29th set of many.
func someSets(n int) []int {
	step := 1
	if n > 6 {
		step = 29
	}
	out := []int{1<<n - 1}
	for set := 0; set < 1<<n; set += step {
		out = append(out, set)
	}
	return out
}

func TestIntersectionAndUnion(t *testing.T) {
	for n := 1; n <= impl.MaxSigners; n++ {
		sets := someSets(n)
		for _, a := range sets {
			for _, b := range sets {
				x, y := bitmapOf(a, n), bitmapOf(b, n)
				if got := impl.BitsAnd(x, y); !slices.Equal(impl.BitsList(got), signersIn(a&b)) || !impl.BitsOk(got, n) {
					t.Errorf("the signers in %v and %v of %d: %v", x, y, n, got)
				}
				if got := impl.BitsOr(x, y); !slices.Equal(impl.BitsList(got), signersIn(a|b)) || !impl.BitsOk(got, n) {
					t.Errorf("the signers in %v or %v of %d: %v", x, y, n, got)
				}
				if got := impl.BitsIn(x, y); got != (a&^b == 0) {
					t.Errorf("BitsIn(%v, %v) = %v", x, y, got)
				}
			}
		}
	}
}
