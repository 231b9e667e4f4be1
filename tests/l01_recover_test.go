package tests

import (
	"bytes"
	"fmt"
	"math"
	"testing"

	"loop.example/g00790/impl"
)

// P4 for the parts of chapter 2: a part is recovered from its encoding, and an
// input is the encoding of one value or has a first error.

// someNumbers are the numbers next to powers of two and some without a pattern.
func someNumbers() []int {
	out := []int{impl.MaxNum, impl.MaxNum / 3, 123456789012345678}
	for shift := range 60 {
		for d := -1; d <= 1; d++ {
			out = append(out, 1<<shift+d)
		}
	}
	return out
}

// eachInput calls f for every byte string of at most n elements of the alphabet.
func eachInput(alphabet []byte, n int, f func(b []byte)) {
	var grow func(b []byte)
	grow = func(b []byte) {
		f(b)
		if len(b) == n {
			return
		}
		for _, c := range alphabet {
			grow(append(bytes.Clone(b), c))
		}
	}
	grow(nil)
}

func TestNumberRecovered(t *testing.T) {
	for _, n := range someNumbers() {
		b, ok := impl.PutVar([]byte{128, 0}, n)
		if !ok || len(b) != 2+impl.VarSize(n) {
			t.Errorf("PutVar(%d) = %v, %v", n, b, ok)
			continue
		}
		what := fmt.Sprintf("the number %d", n)
		got, next, er := impl.GetVar(append(bytes.Clone(b), 255), 2)
		checkNumber(t, what, got, next, er, n, len(b), impl.ErOk)
		for end := 2; end < len(b); end++ {
			got, next, er := impl.GetVar(b[:end], 2)
			checkNumber(t, what+", cut", got, next, er, 0, 0, impl.ErShort)
		}
	}
}

// Every accepted input starts with the only encoding of its number; an input
// that is too short can be completed; one with an error in it cannot.
func TestNumberInputs(t *testing.T) {
	eachInput([]byte{0, 1, 15, 127, 128, 129, 255}, 5, func(b []byte) {
		n, next, er := impl.GetVar(b, 0)
		switch er {
		case impl.ErOk:
			only, ok := impl.PutVar(nil, n)
			checkPut(t, fmt.Sprintf("the encoding read from %v", b), only, ok, b[:next])
		case impl.ErShort:
			_, _, er := impl.GetVar(append(bytes.Clone(b), 1), 0)
			if er != impl.ErOk {
				t.Errorf("%v is short, but a last byte gives %d", b, er)
			}
		case impl.ErVar:
			if bytes.IndexByte(b, 0) < 1 {
				t.Errorf("%v is refused without a 0 behind its first byte", b)
			}
		default:
			t.Errorf("GetVar(%v) has the code %d", b, er)
		}
	})
}

// All nine-byte forms that differ in the last byte: only 1 to 15 give numbers.
func TestNumberNinthByte(t *testing.T) {
	for last := range 256 {
		n, next, er := impl.GetVar(filled(8, 129, byte(last)), 0)
		if last >= 1 && last <= 15 {
			low, _, _ := impl.GetVar(filled(7, 129, 1), 0)
			checkNumber(t, fmt.Sprintf("ninth byte %d", last), n, next, er, low+last<<56, 9, impl.ErOk)
		} else {
			checkNumber(t, fmt.Sprintf("ninth byte %d", last), n, next, er, 0, 0, impl.ErVar)
		}
	}
}

func TestFixedRecovered(t *testing.T) {
	for w := 1; w <= 7; w++ {
		for _, n := range someNumbers() {
			b, ok := impl.PutFix([]byte{9}, n, w)
			what := fmt.Sprintf("the number %d of width %d", n, w)
			if n >= 1<<(8*w) {
				checkPut(t, what, b, ok, nil)
				continue
			}
			if !ok || len(b) != 1+w {
				t.Errorf("%s: %v, %v", what, b, ok)
				continue
			}
			got, next, er := impl.GetFix(append(bytes.Clone(b), 255), 1, w)
			checkNumber(t, what, got, next, er, n, 1+w, impl.ErOk)
			got, next, er = impl.GetFix(b[:w], 1, w)
			checkNumber(t, what+", cut", got, next, er, 0, 0, impl.ErShort)
		}
	}
}

// Every w bytes are the encoding of a number.
func TestFixedInputs(t *testing.T) {
	eachInput([]byte{0, 1, 128, 255}, 7, func(b []byte) {
		w := len(b)
		n, next, er := impl.GetFix(b, 0, w)
		if w == 0 {
			checkNumber(t, "no bytes", n, next, er, 0, 0, impl.ErValue)
			return
		}
		only, ok := impl.PutFix(nil, n, w)
		checkPut(t, fmt.Sprintf("the fixed number read from %v", b), only, ok, b)
		if next != w || er != impl.ErOk {
			t.Errorf("GetFix(%v): %d, %d", b, next, er)
		}
	})
}

func TestRawRecovered(t *testing.T) {
	b := []byte{0, 255, 128, 7, 7, 1}
	for at := -1; at <= len(b)+1; at++ {
		for n := -1; n <= len(b)+1; n++ {
			x, next, er := impl.GetRaw(b, at, n)
			what := fmt.Sprintf("GetRaw(%d, %d)", at, n)
			if at < 0 || n < 0 || at+n > len(b) {
				checkBytes(t, what, x, next, er, nil, 0, impl.ErShort)
			} else {
				checkBytes(t, what, x, next, er, b[at:at+n], at+n, impl.ErOk)
			}
		}
	}
}

func TestTextRecovered(t *testing.T) {
	for _, size := range []int{0, 1, 2, 40, 127, 128, 129, 300, 16383, 16384} {
		x := make([]byte, size)
		for i := range x {
			x[i] = byte(i*7 + size)
		}
		b := impl.PutText([]byte{255, 0}, x)
		what := fmt.Sprintf("a text of %d bytes", size)
		got, next, er := impl.GetText(append(bytes.Clone(b), 3), 2, size)
		checkBytes(t, what, got, next, er, x, len(b), impl.ErOk)
		got, next, er = impl.GetText(b, 2, size-1)
		checkBytes(t, what+", less allowed", got, next, er, nil, 0, impl.ErLong)
		got, next, er = impl.GetText(b[:len(b)-1], 2, size)
		checkBytes(t, what+", cut", got, next, er, nil, 0, impl.ErShort)
	}
}

// Every accepted input starts with the only encoding of its text; otherwise the
// code is the first one that applies.
func TestTextInputs(t *testing.T) {
	eachInput([]byte{0, 1, 2, 3, 128, 255}, 4, func(b []byte) {
		for most := -1; most <= 4; most++ {
			x, next, er := impl.GetText(b, 0, most)
			size, from, first := impl.GetVar(b, 0)
			want := impl.ErOk
			switch {
			case first != impl.ErOk:
				want = first
			case size > most:
				want = impl.ErLong
			case from+size > len(b):
				want = impl.ErShort
			}
			if er != want {
				t.Errorf("GetText(%v, 0, %d) has the code %d instead of %d", b, most, er, want)
			}
			if er == impl.ErOk && !bytes.Equal(impl.PutText(nil, x), b[:next]) {
				t.Errorf("GetText(%v, 0, %d) = %v, which is encoded differently", b, most, x)
			}
		}
	})
}

func TestStringsRecovered(t *testing.T) {
	for _, n := range someNumbers() {
		if got, ok := impl.TextNum(impl.NumText(n)); got != n || !ok {
			t.Errorf("TextNum(NumText(%d)) = %d, %v", n, got, ok)
		}
	}
	all := make([]byte, 256)
	for i := range all {
		all[i] = byte(i)
	}
	s := impl.HexText(all)
	if s != fmt.Sprintf("%x", all) {
		t.Errorf("HexText of all bytes is %q", s)
	}
	if got, ok := impl.TextHex(s); !ok || !bytes.Equal(got, all) {
		t.Errorf("TextHex of all bytes is %v, %v", got, ok)
	}
}

// All offsets, widths and lengths that could overflow give a code and zero values.
func TestPrimExtremeArguments(t *testing.T) {
	inputs := [][]byte{nil, {0}, {128}, {128, 0}, {2, 7, 8}, {255, 255, 3}, filled(9, 255), filled(8, 255, 15)}
	for _, b := range inputs {
		for _, x := range extremes {
			if n, next, er := impl.GetVar(b, x); er != impl.ErOk && (n != 0 || next != 0) {
				t.Errorf("GetVar(%v, %d): %d, %d, %d", b, x, n, next, er)
			}
			if got, ok := impl.PutVar(b, x); ok != (x >= 0 && x <= impl.MaxNum) || !ok && len(got) != 0 {
				t.Errorf("PutVar(%v, %d): %v, %v", b, x, got, ok)
			}
			for _, y := range extremes {
				checkExtreme(t, b, x, y)
			}
		}
	}
}

func checkExtreme(t *testing.T, b []byte, x, y int) {
	t.Helper()
	held := x >= 0 && y >= 0 && x <= len(b) && y <= len(b)-x
	got, next, er := impl.GetRaw(b, x, y)
	if (er == impl.ErOk) != held || er != impl.ErOk && (len(got) != 0 || next != 0) {
		t.Errorf("GetRaw(%v, %d, %d): %v, %d, %d", b, x, y, got, next, er)
	}
	n, next, er := impl.GetFix(b, x, y)
	if (er == impl.ErOk) != (held && y >= 1 && y <= 7) || er != impl.ErOk && (n != 0 || next != 0) {
		t.Errorf("GetFix(%v, %d, %d): %d, %d, %d", b, x, y, n, next, er)
	}
	got, next, er = impl.GetText(b, x, y)
	if er != impl.ErOk && (len(got) != 0 || next != 0) {
		t.Errorf("GetText(%v, %d, %d): %v, %d, %d", b, x, y, got, next, er)
	}
	got, ok := impl.PutFix(b, x, y)
	fits := y >= 1 && y <= 7 && x >= 0 && float64(x) < math.Pow(256, float64(y))
	if ok != fits || !ok && len(got) != 0 {
		t.Errorf("PutFix(%v, %d, %d): %v, %v", b, x, y, got, ok)
	}
}
