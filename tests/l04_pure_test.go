package tests

import (
	"math"
	"slices"
	"testing"

	"loop.example/g00790/impl"
)

// Chapter 1 for chapter 5: arguments and their spare capacity stay unchanged,
// results are new memory, and no function panics.

func TestShaPure(t *testing.T) {
	for _, n := range append([]int{247, 248, 256}, padLengths...) {
		b := mixedBytes(n, 2)
		checkPure(t, "ShaPad", func(a [][]byte) []byte { return impl.ShaPad(a[0]) }, b)
		checkPure(t, "Sha", func(a [][]byte) []byte { return impl.Sha(a[0]) }, b)
		for _, h := range append(someStates(), nil, []int{-1, 0, 0, 0, 0, 0, 0, 0}) {
			checkPure(t, "ShaBlock", func(a [][]byte) []byte { return wordBytes(impl.ShaBlock(h, a[0])) }, b)
		}
	}
}

// roomyWords returns a list equal to l with spare capacity that append would write to.
func roomyWords(l []int) []int {
	all := append(slices.Clone(l), slices.Repeat([]int{spareByte}, spareSize)...)
	return all[: len(l) : len(l)+spareSize]
}

// overwrite changes a list and its spare capacity.
func overwrite(l []int) {
	all := l[:cap(l)]
	for i := range all {
		all[i] = scribble
	}
}

func TestShaBlockKeepsWords(t *testing.T) {
	lists := append(someStates(), nil, make([]int, 7), make([]int, 9), []int{0, 0, 0, 0, 0, 0, 0, -1})
	for _, h := range lists {
		for _, n := range []int{0, 63, 64, 65} {
			b := mixedBytes(n, 1)
			given := roomyWords(h)
			first := impl.ShaBlock(given, b)
			want := slices.Clone(first)
			overwrite(first)
			checkWords(t, "the words given to ShaBlock", given[:cap(given)], slices.Concat(h, slices.Repeat([]int{spareByte}, spareSize)))
			checkWords(t, "the second call of ShaBlock", impl.ShaBlock(given, b), want)
		}
	}
}

// An overwritten result changes neither the next one nor a hash.
func TestShaInitIsNew(t *testing.T) {
	want := impl.Sha([]byte("block"))
	first, second := impl.ShaInit(), impl.ShaInit()
	overwrite(first)
	checkWords(t, "ShaInit called before the change", second, rootWords(8, 2))
	checkWords(t, "ShaInit called after the change", impl.ShaInit(), rootWords(8, 2))
	checkHash(t, "Sha after the change", impl.Sha([]byte("block")), want)
}

// A call in between, also a refused one, leaves nothing behind.
func TestShaKeepsNoState(t *testing.T) {
	want := impl.Sha([]byte("block"))
	impl.Sha(filled(200, 255))
	impl.ShaBlock(impl.ShaInit(), filled(64, 255))
	impl.ShaBlock(impl.ShaInit(), filled(63, 255))
	impl.ShaBlock(slices.Repeat([]int{math.MaxInt}, 8), filled(64, 255))
	checkHash(t, "Sha after other calls", impl.Sha([]byte("block")), want)
}

func TestShaOfExtremes(t *testing.T) {
	isWord := func(x int) bool { return x >= 0 && x <= 4294967295 }
	for _, x := range extremes {
		for _, n := range extremes {
			got := impl.TurnRight(x, n)
			if !isWord(got) || !(isWord(x) && n >= 0 && n <= 31) && got != 0 {
				t.Errorf("TurnRight(%d, %d) = %d", x, n, got)
			}
		}
		for i := range 8 {
			h := impl.ShaInit()
			h[i] = x
			if got := impl.ShaBlock(h, filled(64, 1)); (len(got) == 8) != isWord(x) {
				t.Errorf("ShaBlock with %d as word %d: %v", x, i, got)
			}
		}
	}
}

func TestShaOfNil(t *testing.T) {
	checkHash(t, "Sha(nil)", impl.Sha(nil), impl.Sha([]byte{}))
	checkHash(t, "ShaPad(nil)", impl.ShaPad(nil), impl.ShaPad([]byte{}))
	checkNoWords(t, []int{}, []byte{})
}
