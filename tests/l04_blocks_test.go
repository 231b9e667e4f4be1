package tests

import (
	"bytes"
	"crypto/sha256"
	"encoding"
	"encoding/binary"
	"fmt"
	"testing"

	"loop.example/g00790/impl"
)

// P6 for chapter 5: the hash is computed block by block.

// wordBytes stores words in bytes, the most significant byte first.
func wordBytes(words []int) []byte {
	var b []byte
	for _, x := range words {
		b = binary.BigEndian.AppendUint32(b, uint32(x))
	}
	return b
}

// continued applies ShaBlock to every 64 bytes of b.
func continued(words []int, b []byte) []int {
	for len(b) > 0 {
		words = impl.ShaBlock(words, b[:64])
		b = b[64:]
	}
	return words
}

func TestHashIsThatOfItsBlocks(t *testing.T) {
	for n := range 260 {
		b := mixedBytes(n, 11)
		checkHash(t, fmt.Sprintf("Sha of %d bytes", n), impl.Sha(b), wordBytes(continued(impl.ShaInit(), impl.ShaPad(b))))
	}
	for _, b := range someStrings() {
		checkHash(t, fmt.Sprintf("Sha(%v)", b), impl.Sha(b), wordBytes(continued(impl.ShaInit(), impl.ShaPad(b))))
	}
}

// stateAfter returns the words that Go's SHA-256 keeps after b, which is a list of blocks.
func stateAfter(t *testing.T, b []byte) []int {
	t.Helper()
	h := sha256.New()
	h.Write(b)
	stored, err := h.(encoding.BinaryMarshaler).MarshalBinary()
	if err != nil || len(stored) < 36 {
		t.Fatalf("no state of the hash: %v", err)
	}
	var words []int
	for i := 4; i < 36; i += 4 { // behind the mark of the format
		words = append(words, int(binary.BigEndian.Uint32(stored[i:])))
	}
	return words
}

// The words after every block, not only after the last one, are those of SHA-256.
func TestWordsAfterEveryBlock(t *testing.T) {
	b := mixedBytes(12*64, 4)
	words := impl.ShaInit()
	for end := 0; end < len(b); end += 64 {
		checkWords(t, fmt.Sprintf("the words after %d bytes", end), words, stateAfter(t, b[:end]))
		words = impl.ShaBlock(words, b[end:end+64])
	}
	checkWords(t, "the words at the end", words, stateAfter(t, b))
}

// The blocks before the last ones are those of the string itself, so that a
// hash can be continued from the words behind any of them.
func TestHashContinuedBehindEveryBlock(t *testing.T) {
	for _, n := range padLengths {
		b := mixedBytes(n, 6)
		whole := impl.ShaPad(b)
		want := impl.Sha(b)
		for cut := 0; cut <= len(whole); cut += 64 {
			words := continued(impl.ShaInit(), whole[:cut])
			if cut <= n {
				checkWords(t, fmt.Sprintf("%d of %d bytes", cut, n), words, stateAfter(t, b[:cut]))
			}
			checkHash(t, fmt.Sprintf("%d bytes continued behind %d", n, cut), wordBytes(continued(words, whole[cut:])), want)
		}
	}
}

// Each length needs as many blocks as hold it, one byte more, and the length.
func TestNumberOfBlocks(t *testing.T) {
	known := map[int]int{0: 1, 1: 1, 55: 1, 56: 2, 63: 2, 64: 2, 65: 2, 119: 2, 120: 3, 128: 3, 183: 3, 184: 4}
	for n, blocks := range known {
		if got := len(impl.ShaPad(filled(n, 1))); got != 64*blocks {
			t.Errorf("ShaPad of %d bytes has %d bytes instead of %d blocks", n, got, blocks)
		}
	}
}

func TestOrderOfBlocks(t *testing.T) {
	x, y := mixedBytes(64, 1), mixedBytes(64, 2)
	first := continued(impl.ShaInit(), append(bytes.Clone(x), y...))
	second := continued(impl.ShaInit(), append(bytes.Clone(y), x...))
	if bytes.Equal(wordBytes(first), wordBytes(second)) {
		t.Errorf("both orders of two blocks have the words %v", first)
	}
}

// No padded string ends with another one, also if one string is the other one
// with zero bytes or with its padding: the length at the end differs.
func TestPaddingTellsStringsApart(t *testing.T) {
	var all [][]byte
	for _, n := range padLengths {
		all = append(all, filled(n, 0), filled(n, 0, 128), filled(n, 0, 128, 0), impl.ShaPad(filled(n, 0)))
	}
	for i, x := range all {
		for j, y := range all {
			if !bytes.Equal(x, y) && bytes.HasSuffix(impl.ShaPad(x), impl.ShaPad(y)) {
				t.Errorf("strings %d and %d, of %d and %d bytes: one padded string ends with the other", i, j, len(x), len(y))
			}
		}
	}
}

func TestChangedByteChangesHash(t *testing.T) {
	for _, n := range padLengths {
		b := mixedBytes(n, 8)
		want := impl.Sha(b)
		for at := range b {
			for bit := range 8 {
				changed := bytes.Clone(b)
				changed[at] ^= 1 << bit
				if bytes.Equal(impl.Sha(changed), want) {
					t.Errorf("the bit %d of byte %d of %d does not change the hash", bit, at, n)
				}
			}
		}
	}
}

// Every word of the state and every bit of the block has an effect.
func TestEveryInputOfBlockMatters(t *testing.T) {
	h, b := impl.ShaInit(), mixedBytes(64, 9)
	want := wordBytes(impl.ShaBlock(h, b))
	for i := range h {
		for bit := range 32 {
			changed := impl.ShaInit()
			changed[i] ^= 1 << bit
			if bytes.Equal(wordBytes(impl.ShaBlock(changed, b)), want) {
				t.Errorf("the bit %d of word %d does not change the words", bit, i)
			}
		}
	}
	for at := range b {
		changed := bytes.Clone(b)
		changed[at] ^= 16
		if bytes.Equal(wordBytes(impl.ShaBlock(h, changed)), want) {
			t.Errorf("byte %d of the block does not change the words", at)
		}
	}
}
