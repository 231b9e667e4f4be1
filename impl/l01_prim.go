package impl

import (
	"bytes"
	"errors"
	"strconv"
	"strings"
)

const MaxNum = 1152921504606846975
const ErOk = 0
const ErShort = 1
const ErVar = 2
const ErLong = 3
const ErPad = 4
const ErValue = 5
const ErOrder = 6
const ErRoot = 7
const ErKind = 8
const ErLeft = 9

// Nine groups of seven bits still fit in an int, so a varint of this length
// can be read completely before its value is compared with MaxNum.
const maxVarSize = 9

const maxFixWidth = 7

const hexDigits = "0123456789abcdef"

// A decodeError is the first error in encoded data; code is one of the Er constants.
type decodeError struct {
	code int
}

func (e decodeError) Error() string { return ErName(e.code) }

// codeOf needs no case for nil: errors.As finds nothing in it, and that is ErOk.
func codeOf(err error) int {
	var e decodeError
	if errors.As(err, &e) {
		return e.code
	}
	return ErOk
}

// joined never appends in place, because the spare capacity of b belongs to the caller.
func joined(b []byte, more ...byte) []byte {
	out := make([]byte, 0, len(b)+len(more))
	out = append(out, b...)
	return append(out, more...)
}

func isNum(n int) bool { return n >= 0 && n <= MaxNum }

func PutVar(b []byte, n int) ([]byte, bool) {
	if !isNum(n) {
		return nil, false
	}
	var groups []byte
	for n >= 128 {
		groups = append(groups, byte(n%128+128))
		n /= 128
	}
	return joined(b, append(groups, byte(n))...), true
}

func VarSize(n int) int {
	if !isNum(n) {
		return 0
	}
	size := 1
	for n >= 128 {
		size++
		n /= 128
	}
	return size
}

func GetVar(b []byte, at int) (int, int, int) {
	n, next, err := readVar(b, at)
	return n, next, codeOf(err)
}

func readVar(b []byte, at int) (int, int, error) {
	if at < 0 {
		return 0, 0, decodeError{ErShort}
	}
	n := 0
	for i := at; i < len(b); i++ {
		c, before := b[i], i-at
		if before > 0 && c == 0 || before == maxVarSize-1 && c >= 128 {
			return 0, 0, decodeError{ErVar}
		}
		n += int(c%128) << (7 * before)
		if c >= 128 {
			continue
		}
		if n > MaxNum {
			return 0, 0, decodeError{ErVar}
		}
		return n, i + 1, nil
	}
	return 0, 0, decodeError{ErShort}
}

func isFixWidth(w int) bool { return w >= 1 && w <= maxFixWidth }

func PutFix(b []byte, n int, w int) ([]byte, bool) {
	if !isFixWidth(w) || n < 0 || n >= 1<<(8*w) {
		return nil, false
	}
	var digits []byte
	for range w {
		digits = append(digits, byte(n%256))
		n /= 256
	}
	return joined(b, digits...), true
}

func GetFix(b []byte, at int, w int) (int, int, int) {
	n, next, err := readFix(b, at, w)
	return n, next, codeOf(err)
}

func readFix(b []byte, at int, w int) (int, int, error) {
	if !isFixWidth(w) {
		return 0, 0, decodeError{ErValue}
	}
	digits, next, err := readRaw(b, at, w)
	if err != nil {
		return 0, 0, err
	}
	n := 0
	for i, c := range digits {
		n += int(c) << (8 * i)
	}
	return n, next, nil
}

func GetRaw(b []byte, at int, n int) ([]byte, int, int) {
	x, next, err := readRaw(b, at, n)
	return x, next, codeOf(err)
}

func readRaw(b []byte, at int, n int) ([]byte, int, error) {
	// len(b)-at cannot overflow once at is not negative; at+n could.
	if at < 0 || n < 0 || len(b)-at < n {
		return nil, 0, decodeError{ErShort}
	}
	return joined(nil, b[at:at+n]...), at + n, nil
}

func PutText(b []byte, x []byte) []byte {
	size, _ := PutVar(nil, len(x)) // the length of a slice is always a number
	return joined(b, joined(size, x...)...)
}

func GetText(b []byte, at int, most int) ([]byte, int, int) {
	x, next, err := readText(b, at, most)
	return x, next, codeOf(err)
}

func readText(b []byte, at int, most int) ([]byte, int, error) {
	size, next, err := readVar(b, at)
	if err != nil {
		return nil, 0, err
	}
	if size > most {
		return nil, 0, decodeError{ErLong}
	}
	return readRaw(b, next, size)
}

func NumText(n int) string {
	if !isNum(n) {
		return ""
	}
	return strconv.Itoa(n)
}

// TextNum compares with NumText because strconv also accepts signs and leading zeros.
func TextNum(s string) (int, bool) {
	n, err := strconv.Atoi(s)
	if err != nil || NumText(n) != s {
		return 0, false
	}
	return n, true
}

func HexText(b []byte) string {
	var out []byte
	for _, c := range b {
		out = append(out, hexDigits[c/16], hexDigits[c%16])
	}
	return string(out)
}

func TextHex(s string) ([]byte, bool) {
	if len(s)%2 != 0 {
		return nil, false
	}
	var out []byte
	for i := 0; i < len(s); i += 2 {
		upper := strings.IndexByte(hexDigits, s[i])
		lower := strings.IndexByte(hexDigits, s[i+1])
		if upper < 0 || lower < 0 {
			return nil, false
		}
		out = append(out, byte(16*upper+lower))
	}
	return out, true
}

func ErName(code int) string {
	names := [...]string{
		ErOk:    "ok",
		ErShort: "short",
		ErVar:   "var",
		ErLong:  "long",
		ErPad:   "pad",
		ErValue: "value",
		ErOrder: "order",
		ErRoot:  "root",
		ErKind:  "kind",
		ErLeft:  "left",
	}
	if code < 0 || code >= len(names) {
		return ""
	}
	return names[code]
}

func SameBytes(a []byte, b []byte) bool { return bytes.Equal(a, b) }
