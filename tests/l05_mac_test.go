package tests

import (
	"bytes"
	"crypto/hmac"
	"crypto/sha256"
	"encoding/hex"
	"fmt"
	"slices"
	"testing"

	"loop.example/g00790/impl"
)

// P12 for chapter 6: every function returns what the chapter specifies.

// keyLengths are the lengths at which a key is empty, fills a block or is
// hashed, and those of a hash and its neighbors.
var keyLengths = []int{0, 1, 2, 16, 31, 32, 33, 48, 55, 56, 62, 63, 64, 65, 66, 127, 128, 129, 200, 300}

// someKeys are keys of all keyLengths, also keys that end with zero bytes.
func someKeys() [][]byte {
	var keys [][]byte
	for _, n := range keyLengths {
		keys = append(keys, mixedBytes(n, 21), filled(n, 0), filled(n, 255))
	}
	return append(keys, filled(63, 54), filled(64, 54), filled(64, 92), filled(63, 7, 0), filled(64, 7, 0))
}

// someTexts are byte strings at whose lengths a block, or the padding behind it, ends.
func someTexts() [][]byte {
	var texts [][]byte
	for _, n := range padLengths {
		texts = append(texts, mixedBytes(n, 22))
	}
	return append(texts, filled(32, 0), filled(64, 54), filled(64, 92), []byte("a vote for a block"))
}

// goTag returns the tag that Go computes.
func goTag(key, b []byte) []byte {
	h := hmac.New(sha256.New, key)
	h.Write(b)
	return h.Sum(nil)
}

// keyBlock appends byte by byte what the chapter lists.
func keyBlock(key []byte) []byte {
	block := bytes.Clone(key)
	if len(key) > 64 {
		sum := sha256.Sum256(key)
		block = sum[:]
	}
	for len(block) < 64 {
		block = append(block, 0)
	}
	return block
}

// masked returns b with every byte XORed with mask.
func masked(b []byte, mask byte) []byte {
	out := bytes.Clone(b)
	for i := range out {
		out[i] ^= mask
	}
	return out
}

// writtenTag follows the chapter: Sha(o, Sha(i, b)).
func writtenTag(key, b []byte) []byte {
	inner := sha256.Sum256(append(masked(keyBlock(key), 54), b...))
	outer := sha256.Sum256(append(masked(keyBlock(key), 92), inner[:]...))
	return outer[:]
}

// checkTagOk reports an answer of MacOk that is not as wanted.
func checkTagOk(t *testing.T, what string, key, b, tag []byte, want bool) {
	t.Helper()
	if got := impl.MacOk(key, b, tag); got != want {
		t.Errorf("MacOk, %s: a key of %d bytes, %d bytes, the tag %x: %v", what, len(key), len(b), tag, got)
	}
}

type knownTag struct {
	key  []byte
	b    string
	want string
}

// knownTags are those of RFC 4231 with a whole tag, and others that are published.
func knownTags() []knownTag {
	upward := make([]byte, 25)
	for i := range upward {
		upward[i] = byte(i + 1)
	}
	long := filled(131, 170)
	return []knownTag{
		{nil, "", "b613679a0814d9ec772f95d778c35fc5ff1697c493715653c6c712144292c5ad"},
		{[]byte("key"), "abc", "9c196e32dc0175f86f4b1cb89289d6619de6bee699e4c378e68309ed97a1a6ab"},
		{[]byte("key"), "The quick brown fox jumps over the lazy dog", "f7bc83f430538424b13298e6aa6fb143ef4d59a14946175997479dbc2d1a3cd8"},
		{filled(65, 0), "", "2dc19480eae3a02d634b585f777b82d13b92d3683016bb3266718cc5e8089417"},
		{filled(20, 11), "Hi There", "b0344c61d8db38535ca8afceaf0bf12b881dc200c9833da726e9376c2e32cff7"},
		{[]byte("Jefe"), "what do ya want for nothing?", "5bdcc146bf60754e6a042426089575c75a003f089d2739839dec58b964ec3843"},
		{filled(20, 170), string(filled(50, 221)), "773ea91e36800e46854db8ebd09181a72959098b3ef8c122d9635514ced565fe"},
		{upward, string(filled(50, 205)), "82558a389a443c0ea4cc819899f2083a85f0faa3e578f8077a2e3ff46729665b"},
		{long, "Test Using Larger Than Block-Size Key - Hash Key First", "60e431591ee0b67f0d8a26aacbf5b77f8e0bc6213728c5140546040f0ee37f54"},
		{long, "This is a test using a larger than block-size key and a larger than block-size data. " +
			"The key needs to be hashed before being used by the HMAC algorithm.", "9b09ffa71b942fcb27635fbcd5b0e944bfdc63644f0713938a7f51535c3a35e2"},
	}
}

func TestKnownTags(t *testing.T) {
	for _, k := range knownTags() {
		want, err := hex.DecodeString(k.want)
		if err != nil {
			t.Fatal(err)
		}
		checkHash(t, fmt.Sprintf("Mac of a key of %d bytes and %q", len(k.key), k.b), impl.Mac(k.key, []byte(k.b)), want)
		checkTagOk(t, "a known tag", k.key, []byte(k.b), want, true)
	}
}

func TestKnownKeyBlocks(t *testing.T) {
	hashOf65 := "98ce42deef51d40269d542f5314bef2c7468d401ad5d85168bfab4c0108f75f7"
	hash, err := hex.DecodeString(hashOf65)
	if err != nil {
		t.Fatal(err)
	}
	known := []struct{ key, want []byte }{
		{nil, filled(64, 0)},
		{[]byte{5}, append([]byte{5}, filled(63, 0)...)},
		{[]byte("key"), append([]byte("key"), filled(61, 0)...)},
		{filled(63, 9), filled(63, 9, 0)},
		{filled(64, 9), filled(64, 9)},
		{filled(64, 0), filled(64, 0)},
		{filled(65, 0), append(hash, filled(32, 0)...)},
	}
	for _, k := range known {
		checkHash(t, fmt.Sprintf("MacKey(%v)", k.key), impl.MacKey(k.key), k.want)
	}
}

func TestMacKey(t *testing.T) {
	for n := range 260 {
		for _, key := range [][]byte{filled(n, 0), filled(n, 128), filled(n, 255), mixedBytes(n, 3)} {
			checkHash(t, fmt.Sprintf("MacKey(%v)", key), impl.MacKey(key), keyBlock(key))
		}
	}
	for _, n := range []int{4096, 65536, 1 << 20} {
		key := mixedBytes(n, 5)
		checkHash(t, fmt.Sprintf("MacKey of %d bytes", n), impl.MacKey(key), keyBlock(key))
	}
}

func TestMac(t *testing.T) {
	for _, key := range someKeys() {
		for _, b := range someTexts() {
			what := fmt.Sprintf("Mac(%v, %v)", key, b)
			got := impl.Mac(key, b)
			checkHash(t, what, got, goTag(key, b))
			checkHash(t, what+" written out", got, writtenTag(key, b))
		}
	}
}

func TestMacOfEveryLength(t *testing.T) {
	for n := range 260 {
		one, other := mixedBytes(n, 23), mixedBytes(33, 24)
		checkHash(t, fmt.Sprintf("Mac with a key of %d bytes", n), impl.Mac(one, other), goTag(one, other))
		checkHash(t, fmt.Sprintf("Mac of %d bytes", n), impl.Mac(other, one), goTag(other, one))
		checkHash(t, fmt.Sprintf("Mac of %d bytes twice", n), impl.Mac(one, one), goTag(one, one))
	}
}

func TestMacOfEveryByte(t *testing.T) {
	for c := range 256 {
		one := []byte{byte(c)}
		checkHash(t, fmt.Sprintf("Mac with the key %d", c), impl.Mac(one, nil), goTag(one, nil))
		checkHash(t, fmt.Sprintf("Mac of the byte %d", c), impl.Mac(nil, one), goTag(nil, one))
	}
}

func TestMacOfLongStrings(t *testing.T) {
	for _, n := range []int{1000, 4096, 65535, 1 << 20} {
		b := mixedBytes(n, 5)
		checkHash(t, fmt.Sprintf("Mac of %d bytes", n), impl.Mac([]byte("key"), b), goTag([]byte("key"), b))
		checkHash(t, fmt.Sprintf("Mac with a key of %d bytes", n), impl.Mac(b, []byte("text")), goTag(b, []byte("text")))
	}
}

func TestMacOk(t *testing.T) {
	for _, key := range someKeys() {
		for _, b := range someTexts() {
			checkTagOk(t, "its tag", key, b, goTag(key, b), true)
			checkTagOk(t, "what Mac returns", key, b, impl.Mac(key, b), true)
		}
	}
}

func TestMacOkRefusesLengths(t *testing.T) {
	for _, key := range someKeys() {
		for _, b := range someTexts() {
			tag := goTag(key, b)
			checkTagOk(t, "nil", key, b, nil, false)
			checkTagOk(t, "no byte", key, b, []byte{}, false)
			checkTagOk(t, "the last byte is missing", key, b, tag[:31], false)
			checkTagOk(t, "the first byte is missing", key, b, tag[1:], false)
			checkTagOk(t, "a zero byte more", key, b, slices.Concat(tag, []byte{0}), false)
			checkTagOk(t, "a zero byte before", key, b, slices.Concat([]byte{0}, tag), false)
			checkTagOk(t, "the last byte twice", key, b, slices.Concat(tag, tag[31:]), false)
			checkTagOk(t, "the tag twice", key, b, slices.Concat(tag, tag), false)
		}
	}
}

func TestMacOkRefusesEveryPrefix(t *testing.T) {
	key, b := []byte("key"), []byte("abc")
	tag := goTag(key, b)
	for n := range 32 {
		checkTagOk(t, "a prefix", key, b, tag[:n], false)
		checkTagOk(t, "a prefix and zero bytes", key, b, append(bytes.Clone(tag[:n]), filled(32-n, 0)...), false)
	}
}

// Every bit of every byte counts, the first and the last one too.
func TestMacOkRefusesChangedTags(t *testing.T) {
	for _, n := range []int{0, 1, 63, 64, 65, 128} {
		key, b := mixedBytes(n, 1), mixedBytes(n, 2)
		tag := goTag(key, b)
		for at := range tag {
			for bit := range 8 {
				changed := bytes.Clone(tag)
				changed[at] ^= 1 << bit
				checkTagOk(t, fmt.Sprintf("the bit %d of byte %d changed", bit, at), key, b, changed, false)
			}
		}
		checkTagOk(t, "zero bytes", key, b, filled(32, 0), false)
		checkTagOk(t, "every byte changed", key, b, masked(tag, 255), false)
		slices.Reverse(tag)
		checkTagOk(t, "the bytes reversed", key, b, tag, false)
	}
}

// Two changes that cancel out in a sum or in an XOR of all bytes are still two changes.
func TestMacOkRefusesTwoChangedBytes(t *testing.T) {
	key, b := []byte("key"), []byte("abc")
	tag := goTag(key, b)
	for i := range tag {
		for j := range i {
			changed := bytes.Clone(tag)
			changed[i]++
			changed[j]--
			checkTagOk(t, "one byte more, one less", key, b, changed, false)
			changed = bytes.Clone(tag)
			changed[i] ^= 1
			changed[j] ^= 1
			checkTagOk(t, "the same bit of two bytes", key, b, changed, false)
		}
	}
}

// differentKeys are keys with different key blocks, in pairs that are easily mixed up.
func differentKeys() [][]byte {
	return [][]byte{
		nil, {1}, {0, 1}, {1, 1}, []byte("key"), []byte("kez"), []byte("yek"),
		filled(63, 7), filled(64, 7), filled(65, 7), filled(66, 7), filled(64, 7, 0), filled(64, 7, 8),
		filled(64, 54), filled(64, 92), filled(64, 54^92), filled(65, 0), filled(128, 7), filled(127, 7, 8),
	}
}

func TestMacOkRefusesOtherKeys(t *testing.T) {
	keys := differentKeys()
	for i, key := range keys {
		for j, other := range keys {
			for _, n := range []int{0, 1, 55, 56, 63, 64, 65} {
				b := mixedBytes(n, 4)
				checkTagOk(t, fmt.Sprintf("key %d, the tag of key %d", i, j), key, b, goTag(other, b), i == j)
			}
		}
	}
}

func TestMacOkRefusesOtherStrings(t *testing.T) {
	texts := [][]byte{nil, {0}, {0, 0}, {1}, []byte("abc"), []byte("abd"), []byte("ab"), []byte("cba")}
	for _, n := range []int{55, 56, 63, 64, 65} {
		texts = append(texts, filled(n, 7), filled(n, 0), filled(n, 7, 128), impl.ShaPad(filled(n, 7)))
	}
	for i, b := range texts {
		for j, other := range texts {
			for _, n := range []int{0, 1, 63, 64, 65, 128} {
				key := mixedBytes(n, 3)
				checkTagOk(t, fmt.Sprintf("string %d, the tag of string %d", i, j), key, b, goTag(key, other), i == j)
			}
		}
	}
}

// What is close to a tag is none: the hash without the key, one of the two
// hashes, the paddings exchanged, key and string exchanged or only joined.
func TestMacOkRefusesOtherHashes(t *testing.T) {
	hash := func(parts ...[]byte) []byte {
		sum := sha256.Sum256(slices.Concat(parts...))
		return sum[:]
	}
	for _, n := range []int{1, 63, 64, 65, 128} {
		key, b := mixedBytes(n, 5), mixedBytes(40, 6)
		i, o := masked(keyBlock(key), 54), masked(keyBlock(key), 92)
		near := [][]byte{
			hash(b), hash(key, b), hash(b, key), hash(i, b), hash(o, b), hash(i, hash(o, b)),
			hash(o, hash(o, b)), hash(i, hash(i, b)), hash(hash(i, b), o), hash(o, hash(b, i)),
			hash(o, i, b), goTag(b, key), impl.Sha(key), impl.MacKey(key),
		}
		for at, tag := range near {
			checkTagOk(t, fmt.Sprintf("hash %d", at), key, b, tag, false)
		}
	}
}
