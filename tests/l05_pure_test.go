package tests

import (
	"bytes"
	"fmt"
	"slices"
	"sync"
	"testing"

	"loop.example/g00790/impl"
)

// Chapter 1 for chapter 6: arguments and their spare capacity stay unchanged,
// results are new memory, and no function panics.

// oneByte makes an answer comparable as bytes.
func oneByte(yes bool) []byte {
	if yes {
		return []byte{1}
	}
	return []byte{0}
}

// From 48 bytes on, the zero bytes that fill a key block would fit in the key's
// spare capacity.
func TestMacPure(t *testing.T) {
	for n := range 131 {
		key, b := mixedBytes(n, 15), mixedBytes(130-n, 16)
		checkPure(t, fmt.Sprintf("MacKey of %d bytes", n), func(a [][]byte) []byte { return impl.MacKey(a[0]) }, key)
		checkPure(t, fmt.Sprintf("Mac with a key of %d bytes", n), func(a [][]byte) []byte { return impl.Mac(a[0], a[1]) }, key, b)
		for _, tag := range [][]byte{goTag(key, b), goTag(b, key), nil, filled(31, 0), filled(33, 0)} {
			checkPure(t, fmt.Sprintf("MacOk with a key of %d bytes", n), func(a [][]byte) []byte {
				return oneByte(impl.MacOk(a[0], a[1], a[2]))
			}, key, b, tag)
		}
	}
}

// A key of exactly 64 bytes is its own key block, but not its memory.
func TestMacKeyOfFullKeyIsNew(t *testing.T) {
	for _, room := range []int{0, 1, 64} {
		key := append(make([]byte, 0, 64+room), mixedBytes(64, 17)...)
		block := impl.MacKey(key)
		key[0]++
		checkHash(t, "MacKey after a change of the key", block, mixedBytes(64, 17))
		key[0]--
		all := block[:cap(block)]
		for i := range all {
			all[i] = scribble
		}
		checkHash(t, "the key after a change of MacKey", key, mixedBytes(64, 17))
		checkHash(t, "MacKey called again", impl.MacKey(key), mixedBytes(64, 17))
	}
}

// No result shares memory with that of an earlier call.
func TestMacResultsAreNew(t *testing.T) {
	for _, n := range []int{0, 1, 63, 64, 65, 128} {
		key, b := mixedBytes(n, 18), mixedBytes(20, 19)
		firstBlock, firstTag := impl.MacKey(key), impl.Mac(key, b)
		secondBlock, secondTag := impl.MacKey(key), impl.Mac(key, b)
		for _, x := range [][]byte{firstBlock, firstTag} {
			for i := range x {
				x[i] ^= 255
			}
		}
		checkHash(t, "the second MacKey", secondBlock, keyBlock(key))
		checkHash(t, "the second Mac", secondTag, goTag(key, b))
	}
}

// Arguments may lie in the same memory, one behind the other or one in the other.
func TestMacOfSharedMemory(t *testing.T) {
	all := mixedBytes(200, 20)
	for _, cut := range []int{0, 1, 55, 56, 63, 64, 65, 128, 200} {
		key, rest := all[:cut], all[cut:]
		checkHash(t, fmt.Sprintf("Mac of a list cut at %d", cut), impl.Mac(key, rest), goTag(bytes.Clone(key), bytes.Clone(rest)))
		checkHash(t, fmt.Sprintf("Mac of the first %d bytes twice", cut), impl.Mac(key, key), goTag(bytes.Clone(key), bytes.Clone(key)))
		checkHash(t, fmt.Sprintf("Mac of the first %d bytes and all", cut), impl.Mac(key, all), goTag(bytes.Clone(key), bytes.Clone(all)))
		checkHash(t, "the list", all, mixedBytes(200, 20))
	}
	tag := impl.Mac(nil, nil)
	checkTagOk(t, "the tag is the key too", tag, nil, tag, false)
	checkTagOk(t, "the tag is the string too", nil, tag, tag, false)
}

func TestMacOfNil(t *testing.T) {
	checkHash(t, "MacKey(nil)", impl.MacKey(nil), impl.MacKey([]byte{}))
	for _, x := range [][]byte{nil, []byte("abc"), filled(65, 1)} {
		checkHash(t, "Mac with the key nil", impl.Mac(nil, x), impl.Mac([]byte{}, x))
		checkHash(t, "Mac of nil", impl.Mac(x, nil), impl.Mac(x, []byte{}))
		checkTagOk(t, "the key nil", nil, x, goTag([]byte{}, x), true)
		checkTagOk(t, "the string nil", x, nil, goTag(x, []byte{}), true)
	}
	checkTagOk(t, "all nil", nil, nil, nil, false)
}

// Every result has its length, whatever the arguments are.
func TestMacLengths(t *testing.T) {
	all := slices.Concat(someKeys(), someTexts(), someStrings())
	for _, x := range all {
		if got := len(impl.MacKey(x)); got != 64 {
			t.Errorf("MacKey(%v) has %d bytes", x, got)
		}
		for _, y := range [][]byte{nil, {0}, filled(64, 255), x} {
			if got := len(impl.Mac(x, y)); got != 32 {
				t.Errorf("Mac(%v, %v) has %d bytes", x, y, got)
			}
			checkTagOk(t, "the string as its tag", x, y, y, false)
		}
	}
}

// A call in between, also with another key, leaves nothing behind.
func TestMacKeepsNoState(t *testing.T) {
	want := goTag([]byte("key"), []byte("abc"))
	for _, key := range someKeys() {
		impl.MacKey(key)
		impl.Mac(key, filled(100, 255))
		impl.MacOk(key, nil, want)
		checkHash(t, "Mac after other calls", impl.Mac([]byte("key"), []byte("abc")), want)
		checkTagOk(t, "after other calls", []byte("key"), []byte("abc"), want, true)
	}
}

func TestMacAtTheSameTime(t *testing.T) {
	var group sync.WaitGroup
	for _, key := range differentKeys() {
		group.Go(func() {
			for n := range 50 {
				b := mixedBytes(n, 1)
				checkHash(t, "Mac at the same time", impl.Mac(key, b), goTag(key, b))
			}
		})
	}
	group.Wait()
}
