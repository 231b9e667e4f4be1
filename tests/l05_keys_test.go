package tests

import (
	"bytes"
	"fmt"
	"slices"
	"testing"

	"loop.example/g00790/impl"
)

// P6 for chapter 6: both hashes of a tag are computed block by block over the
// padded input, and a long key is replaced by its hash.

// wordsBehind returns the words behind the key block XORed with mask.
func wordsBehind(key []byte, mask byte) []int {
	return impl.ShaBlock(impl.ShaInit(), masked(impl.MacKey(key), mask))
}

// restOf returns the blocks of the padded input behind the key block. What the
// key block holds does not matter for them, only that it counts for the length.
func restOf(b []byte) []byte {
	return impl.ShaPad(slices.Concat(make([]byte, 64), b))[64:]
}

// blockTag computes a tag with ShaBlock alone. The key block is one whole block,
// so that both hashes continue from words that depend on the key alone.
func blockTag(key, b []byte) []byte {
	inner := wordBytes(continued(wordsBehind(key, 54), restOf(b)))
	return wordBytes(continued(wordsBehind(key, 92), restOf(inner)))
}

func TestTagIsThatOfItsBlocks(t *testing.T) {
	for _, key := range someKeys() {
		for _, b := range append(someTexts(), someStrings()...) {
			checkHash(t, fmt.Sprintf("Mac(%v, %v)", key, b), impl.Mac(key, b), blockTag(key, b))
		}
	}
}

func TestTagIsThatOfItsHashes(t *testing.T) {
	for _, key := range someKeys() {
		block := impl.MacKey(key)
		for _, b := range someTexts() {
			inner := impl.Sha(append(masked(block, 54), b...))
			want := impl.Sha(append(masked(block, 92), inner...))
			checkHash(t, fmt.Sprintf("Mac(%v, %v)", key, b), impl.Mac(key, b), want)
		}
	}
}

// The words behind the key block are kept, and several strings continue from them.
func TestTagsContinuedBehindKey(t *testing.T) {
	for _, key := range [][]byte{nil, []byte("key"), mixedBytes(64, 1), mixedBytes(65, 1)} {
		first, last := wordsBehind(key, 54), wordsBehind(key, 92)
		for _, n := range []int{0, 1, 55, 56, 63, 64, 65} {
			b := mixedBytes(n, 7)
			inner := wordBytes(continued(first, restOf(b)))
			tag := wordBytes(continued(last, restOf(inner)))
			checkHash(t, fmt.Sprintf("Mac of %d bytes", n), impl.Mac(key, b), tag)
			checkTagOk(t, "put together from blocks", key, b, tag, true)
		}
	}
}

// sameKey checks that two keys have the same key block and the same tags.
func sameKey(t *testing.T, what string, key, other []byte) {
	t.Helper()
	checkHash(t, what+": MacKey", impl.MacKey(key), impl.MacKey(other))
	for _, n := range []int{0, 1, 55, 56, 63, 64, 65} {
		b := mixedBytes(n, 8)
		tag := impl.Mac(key, b)
		checkHash(t, fmt.Sprintf("%s: Mac of %d bytes", what, n), tag, impl.Mac(other, b))
		checkTagOk(t, what, key, b, tag, true)
		checkTagOk(t, what+", the other key", other, b, tag, true)
	}
}

func TestLongKeyIsReplacedByItsHash(t *testing.T) {
	for n := 65; n < 200; n++ {
		for _, key := range [][]byte{mixedBytes(n, 9), filled(n, 0), filled(n, 255)} {
			sameKey(t, fmt.Sprintf("a key of %d bytes", n), key, impl.Sha(key))
		}
	}
	for _, n := range []int{256, 1000, 65536} {
		key := mixedBytes(n, 9)
		sameKey(t, fmt.Sprintf("a key of %d bytes", n), key, impl.Sha(key))
	}
}

// A key that fits in the block is used itself, at most with zero bytes behind it.
func TestShortKeyIsKept(t *testing.T) {
	for n := range 65 {
		key := mixedBytes(n, 10)
		block := impl.MacKey(key)
		if len(block) != 64 || !bytes.HasPrefix(block, key) || !bytes.Equal(block[n:], make([]byte, 64-n)) {
			t.Errorf("MacKey(%v): %v", key, block)
		}
		sameKey(t, fmt.Sprintf("a key of %d bytes", n), key, block)
		sameKey(t, fmt.Sprintf("a key of %d bytes and zero bytes", n), key, append(bytes.Clone(key), make([]byte, (64-n)/2)...))
		checkTagOk(t, "the tag of the hash of the key", key, []byte("abc"), impl.Mac(impl.Sha(key), []byte("abc")), false)
	}
}

// The 65th byte changes everything, also if it is a zero byte.
func TestZeroByteBehindFullKey(t *testing.T) {
	for _, key := range [][]byte{filled(64, 0), filled(64, 7), mixedBytes(64, 12)} {
		longer := slices.Concat(key, []byte{0})
		if bytes.Equal(impl.MacKey(key), impl.MacKey(longer)) {
			t.Errorf("MacKey(%v) is that of the key with a zero byte more", key)
		}
		checkTagOk(t, "the tag of a longer key", key, nil, impl.Mac(longer, nil), false)
		checkTagOk(t, "the tag of a shorter key", longer, nil, impl.Mac(key, nil), false)
	}
}

// changedTags checks that every changed bit of the argument leads to another tag.
func changedTags(t *testing.T, what string, b []byte, tagOf func(b []byte) []byte) {
	t.Helper()
	want := tagOf(b)
	for at := range b {
		for bit := range 8 {
			changed := bytes.Clone(b)
			changed[at] ^= 1 << bit
			if bytes.Equal(tagOf(changed), want) {
				t.Errorf("the bit %d of byte %d of %d of the %s does not change the tag", bit, at, len(b), what)
			}
		}
	}
}

func TestChangedByteChangesTag(t *testing.T) {
	for _, n := range []int{1, 55, 56, 63, 64, 65, 128} {
		b := mixedBytes(n, 13)
		changedTags(t, "key", b, func(b []byte) []byte { return impl.Mac(b, []byte("abc")) })
		changedTags(t, "string", b, func(b []byte) []byte { return impl.Mac([]byte("key"), b) })
	}
}

// Where the key ends and the string begins matters.
func TestKeyIsNoPartOfString(t *testing.T) {
	for _, all := range [][]byte{[]byte("a vote for a block"), mixedBytes(130, 14), filled(70, 7)} {
		var tags [][]byte
		for cut := range len(all) + 1 {
			tag := impl.Mac(all[:cut], all[cut:])
			if slices.ContainsFunc(tags, func(x []byte) bool { return bytes.Equal(x, tag) }) {
				t.Errorf("the tag of %v cut at %d is that of another cut", all, cut)
			}
			tags = append(tags, tag)
		}
	}
}
