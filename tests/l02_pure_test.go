package tests

import (
	"slices"
	"testing"

	"loop.example/g00790/impl"
)

// Chapter 1 for chapter 3: arguments and their spare capacity stay unchanged,
// and results share no memory with them.

func TestBitsPure(t *testing.T) {
	for _, b := range [][]byte{nil, {0, 0}, {1, 2}, {255, 3}, {255, 255}, {1}} {
		for _, on := range []bool{true, false} {
			checkPure(t, "BitsSet", func(a [][]byte) []byte {
				out, _ := impl.BitsSet(a[0], 10, 1, on)
				return out
			}, b)
		}
		checkPure(t, "BitsAnd", func(a [][]byte) []byte { return impl.BitsAnd(a[0], a[1]) }, b, []byte{255, 255})
		checkPure(t, "BitsOr", func(a [][]byte) []byte { return impl.BitsOr(a[0], a[1]) }, b, []byte{0, 0})
		checkPure(t, "GetBits", func(a [][]byte) []byte {
			out, _, _ := impl.GetBits(a[0], 0, 10)
			return out
		}, b)
		checkPure(t, "the questions", func(a [][]byte) []byte {
			if impl.BitsOk(a[0], 10) && impl.BitsHas(a[0], 1) && impl.BitsIn(a[0], a[1]) {
				return []byte{byte(impl.BitsCount(a[0]))}
			}
			return nil
		}, b, []byte{255, 3})
		checkPure(t, "BitsList", func(a [][]byte) []byte {
			var out []byte
			for _, i := range impl.BitsList(a[0]) {
				out = append(out, byte(i))
			}
			return out
		}, b)
	}
}

// With the same bitmap as both arguments the result is still a new one.
func TestBitsOfOneArgument(t *testing.T) {
	b := []byte{5, 1}
	and, or := impl.BitsAnd(b, b), impl.BitsOr(b, b)
	same, _ := impl.BitsSet(b, 9, 0, true)
	for i := range b {
		and[i], or[i], same[i] = scribble, scribble, scribble
	}
	if b[0] != 5 || b[1] != 1 {
		t.Errorf("a result shares memory with the argument: %v", b)
	}
}

func TestBitsNewAgain(t *testing.T) {
	first := impl.BitsNew(10)
	first[0], first[1] = scribble, scribble
	if again := impl.BitsNew(10); again[0] != 0 || again[1] != 0 {
		t.Errorf("BitsNew(10) after a change of its last result: %v", again)
	}
}

func TestBitsOfPure(t *testing.T) {
	for _, n := range []int{0, 1, 4, 10, 11} {
		all := []int{3, 0, 3, 2, -7, -7}
		before := slices.Clone(all)
		b, ok := impl.BitsOf(all[:4], n)
		if !slices.Equal(all, before) {
			t.Errorf("BitsOf(.., %d) changed its argument to %v", n, all)
		}
		for i := range b {
			b[i] = scribble
		}
		if again, okAgain := impl.BitsOf(all[:4], n); okAgain != ok || ok && again[0] != 13 {
			t.Errorf("BitsOf(.., %d) after a change of its last result: %v, %v", n, again, okAgain)
		}
	}
}

func TestBitsListAgain(t *testing.T) {
	b := []byte{6, 1}
	first := impl.BitsList(b)
	for i := range first {
		first[i] = -1
	}
	if again := impl.BitsList(b); !slices.Equal(again, []int{1, 2, 8}) {
		t.Errorf("BitsList after a change of its last result: %v", again)
	}
}
