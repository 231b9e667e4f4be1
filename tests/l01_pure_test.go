package tests

import (
	"testing"

	"loop.example/g00790/impl"
)

// Chapter 1 for chapter 2: arguments and their spare capacity stay unchanged,
// and results share no memory with them.

func TestPrimPure(t *testing.T) {
	some := []byte{2, 7, 8, 172, 2}
	for _, n := range []int{0, 300, impl.MaxNum, -1} {
		checkPure(t, "PutVar", func(a [][]byte) []byte {
			out, _ := impl.PutVar(a[0], n)
			return out
		}, some)
	}
	for _, w := range []int{0, 1, 7, 8} {
		checkPure(t, "PutFix", func(a [][]byte) []byte {
			out, _ := impl.PutFix(a[0], 200, w)
			return out
		}, some)
	}
	for _, x := range [][]byte{nil, {9}, filled(200, 9)} {
		checkPure(t, "PutText", func(a [][]byte) []byte {
			return impl.PutText(a[0], a[1])
		}, some, x)
		checkPure(t, "PutText to nothing", func(a [][]byte) []byte {
			return impl.PutText(nil, a[0])
		}, x)
	}
	for at := -1; at <= len(some)+1; at++ {
		checkGetPure(t, some, at)
	}
	checkPure(t, "HexText", func(a [][]byte) []byte { return []byte(impl.HexText(a[0])) }, some)
	checkPure(t, "TextHex", func(a [][]byte) []byte {
		out, _ := impl.TextHex(string(a[0]))
		return out
	}, []byte("0fa0"))
	checkPure(t, "SameBytes", func(a [][]byte) []byte {
		if impl.SameBytes(a[0], a[1]) {
			return []byte{1}
		}
		return nil
	}, some, some)
}

func checkGetPure(t *testing.T, b []byte, at int) {
	t.Helper()
	checkPure(t, "GetVar", func(a [][]byte) []byte {
		n, next, er := impl.GetVar(a[0], at)
		return []byte{byte(n), byte(next), byte(er)}
	}, b)
	checkPure(t, "GetFix", func(a [][]byte) []byte {
		n, next, er := impl.GetFix(a[0], at, 2)
		return []byte{byte(n), byte(next), byte(er)}
	}, b)
	checkPure(t, "GetRaw", func(a [][]byte) []byte {
		out, _, _ := impl.GetRaw(a[0], at, 2)
		return out
	}, b)
	checkPure(t, "GetText", func(a [][]byte) []byte {
		out, _, _ := impl.GetText(a[0], at, 40)
		return out
	}, b)
}
