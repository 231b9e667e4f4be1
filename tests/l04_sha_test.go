package tests

import (
	"bytes"
	"crypto/sha256"
	"fmt"
	"math"
	"math/big"
	"slices"
	"strings"
	"testing"

	"loop.example/g00790/impl"
)

// P12 for chapter 5: every function returns what the chapter specifies.

// notWords are ints that are no word. The low 32 bits of some of them are one.
var notWords = []int{math.MinInt, math.MinInt + 7, -1 << 32, -4294967295, -2, -1, 4294967296, 4294967297, 1<<33 - 1, 1 << 40, math.MaxInt - 1, math.MaxInt}

var someWords = []int{0, 1, 2, 6, 255, 256, 65535, 65536, 305419896, 1779033703, 1<<31 - 1, 1 << 31, 1<<31 + 1, 4294967294, 4294967295}

// notTurns are ints by which no word is turned. The low five bits of some of them are not 0.
var notTurns = []int{math.MinInt, math.MinInt + 1, -1 << 32, -33, -32, -31, -2, -1, 32, 33, 40, 63, 64, 255, 256, 1 << 32, 1<<32 + 1, math.MaxInt - 1, math.MaxInt}

// padLengths are the lengths at which the padding starts, ends or fills a block.
var padLengths = []int{0, 1, 2, 3, 31, 32, 54, 55, 56, 57, 62, 63, 64, 65, 118, 119, 120, 121, 127, 128, 129, 183, 184, 191, 192}

// mixedBytes returns n bytes that differ from their neighbors and from those of another seed.
func mixedBytes(n, seed int) []byte {
	b := make([]byte, n)
	for i := range b {
		b[i] = byte((i+seed)*(i+7)*31 + i/256 + seed)
	}
	return b
}

// checkWords reports a list of words that is not as wanted.
func checkWords(t *testing.T, what string, got, want []int) {
	t.Helper()
	if !slices.Equal(got, want) {
		t.Errorf("%s: %v instead of %v", what, got, want)
	}
}

// checkHash reports a hash that is not as wanted.
func checkHash(t *testing.T, what string, got, want []byte) {
	t.Helper()
	if !bytes.Equal(got, want) {
		t.Errorf("%s: %x instead of %x", what, got, want)
	}
}

func TestKnownTurns(t *testing.T) {
	known := []struct{ x, n, want int }{
		{1, 0, 1},
		{1, 1, 2147483648},
		{6, 1, 3},
		{1, 31, 2},
		{3, 31, 6},
		{1 << 31, 31, 1},
		{0, 17, 0},
		{4294967295, 13, 4294967295},
		{0x12345678, 4, 0x81234567},
		{0x12345678, 16, 0x56781234},
		{0x12345678, 28, 0x23456781},
		{4294967295, 0, 4294967295},
		{4294967296, 0, 0},
		{4294967296, 1, 0},
		{4294967297, 1, 0},
		{-1, 0, 0},
		{-1, 1, 0},
		{1, -1, 0},
		{1, 32, 0},
		{1, 33, 0},
	}
	for _, k := range known {
		checkSum(t, fmt.Sprintf("TurnRight(%d, %d)", k.x, k.n), impl.TurnRight(k.x, k.n), k.want)
	}
}

// turned moves the low n bits of x above the others.
func turned(x, n int) int {
	half := 1 << n
	return x/half + x%half*(1<<(32-n))
}

func TestTurnRight(t *testing.T) {
	for _, x := range someWords {
		for n := range 32 {
			checkSum(t, fmt.Sprintf("TurnRight(%d, %d)", x, n), impl.TurnRight(x, n), turned(x, n))
		}
		for _, n := range notTurns {
			checkSum(t, fmt.Sprintf("TurnRight(%d, %d)", x, n), impl.TurnRight(x, n), 0)
		}
	}
	for _, x := range notWords {
		for n := range 32 {
			checkSum(t, fmt.Sprintf("TurnRight(%d, %d)", x, n), impl.TurnRight(x, n), 0)
		}
		for _, n := range notTurns {
			checkSum(t, fmt.Sprintf("TurnRight(%d, %d)", x, n), impl.TurnRight(x, n), 0)
		}
	}
}

// somePrimes returns the first n primes.
func somePrimes(n int) []int {
	var primes []int
	for p := 2; len(primes) < n; p++ {
		if !slices.ContainsFunc(primes, func(q int) bool { return p%q == 0 }) {
			primes = append(primes, p)
		}
	}
	return primes
}

// rootWord returns the first 32 bits of the fractional part of the root of x of
// the given degree: the low 32 bits of the greatest y whose power is at most x
// times that power of 2^32.
func rootWord(x, degree int) int {
	limit := new(big.Int).Lsh(big.NewInt(int64(x)), uint(32*degree))
	y := 0
	for bit := 39; bit >= 0; bit-- {
		next := big.NewInt(int64(y + 1<<bit))
		if next.Exp(next, big.NewInt(int64(degree)), nil).Cmp(limit) <= 0 {
			y += 1 << bit
		}
	}
	return y % (1 << 32)
}

// rootWords returns the first 32 bits of the fractional parts of the roots of
// the first n primes.
func rootWords(n, degree int) []int {
	var words []int
	for _, p := range somePrimes(n) {
		words = append(words, rootWord(p, degree))
	}
	return words
}

func TestShaInit(t *testing.T) {
	known := []int{1779033703, 3144134277, 1013904242, 2773480762, 1359893119, 2600822924, 528734635, 1541459225}
	checkWords(t, "ShaInit()", impl.ShaInit(), known)
	checkWords(t, "ShaInit() and the square roots", impl.ShaInit(), rootWords(8, 2))
}

// padded appends byte by byte what the chapter lists.
func padded(b []byte) []byte {
	out := append(bytes.Clone(b), 128)
	for len(out)%64 != 56 {
		out = append(out, 0)
	}
	for shift := 56; shift >= 0; shift -= 8 {
		out = append(out, byte(8*len(b)>>shift))
	}
	return out
}

func TestKnownPadding(t *testing.T) {
	last := func(n int, c byte, length ...byte) []byte { return append(filled(n, c), length...) }
	known := []struct {
		b    []byte
		want []byte
	}{
		{nil, slices.Concat([]byte{128}, filled(63, 0))},
		{[]byte{7}, slices.Concat([]byte{7, 128}, last(61, 0, 8))},
		{[]byte("abc"), slices.Concat([]byte("abc"), []byte{128}, last(59, 0, 24))},
		{filled(31, 0), slices.Concat(filled(31, 0, 128), last(31, 0, 248))},
		{filled(32, 9), slices.Concat(filled(32, 9, 128), last(29, 0, 1, 0))},
		{filled(55, 9), slices.Concat(filled(55, 9, 128), last(6, 0, 1, 184))},
		{filled(56, 9), slices.Concat(filled(56, 9, 128), last(69, 0, 1, 192))},
		{filled(63, 9), slices.Concat(filled(63, 9, 128), last(62, 0, 1, 248))},
		{filled(64, 9), slices.Concat(filled(64, 9, 128), last(61, 0, 2, 0))},
		{filled(119, 9), slices.Concat(filled(119, 9, 128), last(6, 0, 3, 184))},
		{filled(120, 9), slices.Concat(filled(120, 9, 128), last(69, 0, 3, 192))},
		{filled(8192, 9), slices.Concat(filled(8192, 9, 128), last(60, 0, 1, 0, 0))},
	}
	for _, k := range known {
		if got := impl.ShaPad(k.b); !bytes.Equal(got, k.want) {
			t.Errorf("ShaPad of %d bytes: %v instead of %v", len(k.b), got, k.want)
		}
	}
}

func TestShaPad(t *testing.T) {
	for n := range 260 {
		for _, b := range [][]byte{filled(n, 0), filled(n, 128), filled(n, 255), mixedBytes(n, 3)} {
			if got := impl.ShaPad(b); !bytes.Equal(got, padded(b)) {
				t.Errorf("ShaPad(%v): %v", b, got)
			}
		}
	}
}

// The length in bits has two, three and four bytes.
func TestShaPadOfLongStrings(t *testing.T) {
	for _, n := range []int{8191, 8192, 1<<21 - 1, 1 << 21, 1<<21 + 60} {
		b := make([]byte, n)
		b[0], b[n-1] = 5, 6
		if got := impl.ShaPad(b); !bytes.Equal(got, padded(b)) {
			t.Errorf("ShaPad of %d bytes is wrong; it ends with %v", n, got[len(got)-9:])
		}
	}
}

// sumsOf adds the rotations of x by r and its shift by shift, if there is one, without carry.
func sumsOf(x, shift int, r ...int) int {
	sum := 0
	for _, n := range r {
		sum ^= turned(x, n)
	}
	if shift > 0 {
		sum ^= x >> shift
	}
	return sum
}

// bitwise calls f with the bits of x, y and z at every place and collects the results.
func bitwise(x, y, z int, f func(x, y, z bool) bool) int {
	out := 0
	for bit := 1; bit < 1<<32; bit *= 2 {
		if f(x&bit != 0, y&bit != 0, z&bit != 0) {
			out += bit
		}
	}
	return out
}

// compressed follows the chapter, with ints.
func compressed(h []int, block []byte) []int {
	const wrap = 1 << 32
	w := make([]int, 64)
	for i := range w {
		if i < 16 {
			w[i] = int(block[4*i])<<24 + int(block[4*i+1])<<16 + int(block[4*i+2])<<8 + int(block[4*i+3])
			continue
		}
		w[i] = (w[i-16] + sumsOf(w[i-15], 3, 7, 18) + w[i-7] + sumsOf(w[i-2], 10, 17, 19)) % wrap
	}
	v := slices.Clone(h)
	for i, k := range rootWords(64, 3) {
		ch := bitwise(v[4], v[5], v[6], func(e, f, g bool) bool { return e && f || !e && g })
		maj := bitwise(v[0], v[1], v[2], func(a, b, c bool) bool { return a && b || a && c || b && c })
		u := v[7] + sumsOf(v[4], 0, 6, 11, 25) + ch + k + w[i]
		d := (v[3] + u) % wrap
		a := (u + sumsOf(v[0], 0, 2, 13, 22) + maj) % wrap
		v = []int{a, v[0], v[1], v[2], d, v[4], v[5], v[6]}
	}
	for i := range v {
		v[i] = (v[i] + h[i]) % wrap
	}
	return v
}

func TestKnownBlocks(t *testing.T) {
	known := []struct {
		h     []int
		block []byte
		want  string
	}{
		{impl.ShaInit(), impl.ShaPad(nil), "e3b0c442 98fc1c14 9afbf4c8 996fb924 27ae41e4 649b934c a495991b 7852b855"},
		{impl.ShaInit(), impl.ShaPad([]byte("abc")), "ba7816bf 8f01cfea 414140de 5dae2223 b00361a3 96177a9c b410ff61 f20015ad"},
		{impl.ShaInit(), make([]byte, 64), "da5698be 17b9b469 62335799 779fbeca 8ce5d491 c0d26243 bafef9ea 1837a9d8"},
	}
	for _, k := range known {
		var words []string
		for _, x := range impl.ShaBlock(k.h, k.block) {
			words = append(words, fmt.Sprintf("%08x", x))
		}
		if got := strings.Join(words, " "); got != k.want {
			t.Errorf("ShaBlock(%v, %v): %s instead of %s", k.h, k.block, got, k.want)
		}
	}
}

// someStates are lists of eight words.
func someStates() [][]int {
	states := [][]int{
		impl.ShaInit(),
		{0, 0, 0, 0, 0, 0, 0, 0},
		{1, 2, 3, 4, 5, 6, 7, 8},
		slices.Repeat([]int{4294967295}, 8),
		{1 << 31, 0, 1 << 31, 0, 1, 4294967295, 0, 4294967294},
	}
	for i := range 8 {
		one := make([]int, 8)
		one[i] = 4294967295
		states = append(states, one)
	}
	return states
}

// someBlocks are byte strings of 64 bytes.
func someBlocks() [][]byte {
	return [][]byte{
		filled(64, 0), filled(64, 128), filled(64, 255), impl.ShaPad(nil), impl.ShaPad([]byte("abc")),
		filled(63, 0, 1), append([]byte{128}, filled(63, 0)...), mixedBytes(64, 1), mixedBytes(64, 2),
	}
}

func TestShaBlock(t *testing.T) {
	for _, h := range someStates() {
		for _, b := range someBlocks() {
			checkWords(t, fmt.Sprintf("ShaBlock(%v, %v)", h, b), impl.ShaBlock(h, b), compressed(h, b))
		}
	}
}

// checkNoWords reports a result of ShaBlock for arguments that it refuses.
func checkNoWords(t *testing.T, h []int, b []byte) {
	t.Helper()
	if got := impl.ShaBlock(h, b); len(got) != 0 {
		t.Errorf("ShaBlock(%v, %d bytes): %v instead of nothing", h, len(b), got)
	}
}

func TestShaBlockRefusesLengths(t *testing.T) {
	for words := range 18 {
		h := slices.Repeat([]int{5}, words)
		for _, n := range []int{0, 1, 32, 55, 56, 63, 64, 65, 127, 128, 192} {
			if words != 8 || n != 64 {
				checkNoWords(t, h, filled(n, 7))
			}
		}
	}
	checkNoWords(t, nil, nil)
	checkNoWords(t, nil, filled(64, 0))
	checkNoWords(t, impl.ShaInit(), nil)
}

func TestShaBlockRefusesOtherThanWords(t *testing.T) {
	for _, bad := range notWords {
		for i := range 8 {
			h := impl.ShaInit()
			h[i] = bad
			checkNoWords(t, h, filled(64, 0))
			checkNoWords(t, h, filled(63, 0))
		}
		checkNoWords(t, slices.Repeat([]int{bad}, 8), mixedBytes(64, 1))
		checkNoWords(t, append(impl.ShaInit(), bad), mixedBytes(64, 1))
	}
}

func TestKnownHashes(t *testing.T) {
	known := map[string]string{
		"":    "e3b0c44298fc1c149afbf4c8996fb92427ae41e4649b934ca495991b7852b855",
		"a":   "ca978112ca1bbdcafac231b39a23dc4da786eff8147c4e72b9807785afee48bb",
		"abc": "ba7816bf8f01cfea414140de5dae2223b00361a396177a9cb410ff61f20015ad",
		"abcdbcdecdefdefgefghfghighijhijkijkljklmklmnlmnomnopnopq": "248d6a61d20638b8e5c026930c3e6039a33ce45964ff2167f6ecedd419db06c1",
		"abcdefghbcdefghicdefghijdefghijkefghijklfghijklmghijklmnhijklmno" +
			"ijklmnopjklmnopqklmnopqrlmnopqrsmnopqrstnopqrstu": "cf5b16a778af8380036ce59e7b0492370b249b11e8f07a51afac45037afee9d1",
		"The quick brown fox jumps over the lazy dog": "d7a8fbb307d7809469ca9abcb0082e4f8d5651e46d3cdb762d02d0bf37c9e592",
		"message digest":                "f7846f55cf23e14eebeab5b4e1550cad5b509e3348fbc4efa3a1413d393cb650",
		"\x00":                          "6e340b9cffb37a989ca544e6bb780a2c78901d3fb33738768511a30617afa01d",
		"\xbd":                          "68325720aabd7c82f30f554b313d0570c95accbb7dc4b5aae11204c08ffe732b",
		"\xc9\x8c\x8e\x55":              "7abc22c0ae5af26ce93dbb94433a0e0b2e119d014f8e7f65bd56c61ccccd9504",
		string(filled(55, 0)):           "02779466cdec163811d078815c633f21901413081449002f24aa3e80f0b88ef7",
		string(filled(56, 0)):           "d4817aa5497628e7c77e6b606107042bbba3130888c5f47a375e6179be789fbb",
		string(filled(57, 0)):           "65a16cb7861335d5ace3c60718b5052e44660726da4cd13bb745381b235a1785",
		string(filled(64, 0)):           "f5a5fd42d16a20302798ef6ed309979b43003d2320d9f0e8ea9831a92759fb4b",
		string(filled(1000, 0)):         "541b3e9daa09b20bf85fa273e5cbd3e80185aa4ec298e765db87742b70138a53",
		string(filled(1000, 'A')):       "c2e686823489ced2017f6059b8b239318b6364f6dcd835d0a519105a1eadd6e4",
		string(filled(1000000, 0)):      "d29751f2649b32ff572b5e0a9f541ea660a50f94ff0beedfb0b692b924cc8025",
		string(filled(1000000, 'a')):    "cdc76e5c9914fb9281a1c7e284d73e67f1809a48a497200e046d39ccc7112cd0",
		strings.Repeat("1234567890", 8): "f371bc4a311f2b009eef952dd83ca80e2b60026c8e935592d0f9c308453c813e",
	}
	for s, want := range known {
		if got := fmt.Sprintf("%x", impl.Sha([]byte(s))); got != want {
			t.Errorf("Sha(%.20q of %d bytes): %s instead of %s", s, len(s), got, want)
		}
	}
}

func TestSha(t *testing.T) {
	for n := range 260 {
		for _, b := range [][]byte{filled(n, 0), filled(n, 128), filled(n, 255), mixedBytes(n, 3)} {
			want := sha256.Sum256(b)
			checkHash(t, fmt.Sprintf("Sha(%v)", b), impl.Sha(b), want[:])
		}
	}
}

func TestShaOfEveryByte(t *testing.T) {
	for c := range 256 {
		want := sha256.Sum256([]byte{byte(c)})
		checkHash(t, fmt.Sprintf("Sha of the byte %d", c), impl.Sha([]byte{byte(c)}), want[:])
	}
}

func TestShaOfLongStrings(t *testing.T) {
	for _, n := range []int{1000, 4095, 4096, 8191, 8192, 65535, 1<<21 - 9, 1 << 21} {
		b := mixedBytes(n, 5)
		want := sha256.Sum256(b)
		checkHash(t, fmt.Sprintf("Sha of %d bytes", n), impl.Sha(b), want[:])
	}
}
