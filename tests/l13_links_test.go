package tests

import (
	"bytes"
	"encoding/hex"
	"slices"
	"testing"

	"loop.example/g00790/impl"
)

// P12 for chapter 14: HeadHash and Links return what the chapter specifies.

// writtenHeadHash takes the hash from crypto/sha256.
func writtenHeadHash(l impl.Limits, h impl.Head) []byte {
	if !writtenHeadOk(l, h) {
		return nil
	}
	return goHash(72, rawHead(h))
}

func writtenLinks(l impl.Limits, a, b impl.Head) bool {
	valid := writtenHeadOk(l, a) && writtenHeadOk(l, b)
	return valid && bytes.Equal(b.Parent, goHash(72, rawHead(a))) && b.Qc.View == a.View && b.Qc.Height == a.Height
}

// checkHeadHash compares HeadHash with the chapter.
func checkHeadHash(t *testing.T, l impl.Limits, h impl.Head) {
	t.Helper()
	got, want := impl.HeadHash(l, h), writtenHeadHash(l, h)
	if !bytes.Equal(got, want) || (got == nil) != (want == nil) {
		t.Errorf("HeadHash(%+v, %+v): %x instead of %x", l, h, got, want)
	}
}

func checkLinks(t *testing.T, l impl.Limits, a, b impl.Head, want bool) {
	t.Helper()
	if got := impl.Links(l, a, b); got != want {
		t.Errorf("Links(%+v, %+v, %+v) = %v", l, a, b, got)
	}
}

// qcFor returns a certificate for the block of h, valid or not, that a set of
// the n validators signed.
func qcFor(h impl.Head, set, n int) impl.Qc {
	q := qcOfSet(set, n)
	q.View, q.Height, q.Block = h.View, h.Height, goHash(72, rawHead(h))
	return q
}

// childOf returns a header whose parent is h, valid or not.
func childOf(h impl.Head, set, n int) impl.Head { return headOver(qcFor(h, set, n)) }

// chainOf returns headers of n validators of which each is the child of the one before it.
func chainOf(n, size int) []impl.Head {
	list := []impl.Head{headOfSet(1, n)}
	for i := 1; i < size; i++ {
		h := childOf(list[i-1], i%(1<<n), n)
		h.View, h.Proposer = h.View+i%2, i%n
		list = append(list, h)
	}
	return list
}

// hasChild reports whether there are a view and a height behind those of h.
func hasChild(h impl.Head) bool { return h.View < impl.MaxNum && h.Height < impl.MaxNum }

func TestKnownHeadHashes(t *testing.T) {
	for _, k := range knownHeads() {
		want, err := hex.DecodeString(k.hash)
		if err != nil {
			t.Fatal(err)
		}
		checkHash(t, "HeadHash of a known header", impl.HeadHash(limitsFor(k.n), k.h), want)
		checkHash(t, "Sha of 72 and its encoding", impl.Sha(append([]byte{72}, k.want...)), want)
	}
}

func TestHeadHash(t *testing.T) {
	for n := 1; n <= impl.MaxSigners; n++ {
		l := limitsFor(n)
		for _, h := range someHeads(n) {
			checkHeadHash(t, l, h)
			b, _ := impl.PutHead(l, []byte{72}, h)
			checkHash(t, "Sha of 72 and the encoding", impl.HeadHash(l, h), impl.Sha(b))
		}
	}
	for _, h := range append(oddHeads(), otherHeads(oneHead())...) {
		checkHeadHash(t, limitsFor(4), h)
		checkHeadHash(t, limitsFor(10), h)
	}
}

func TestNoHeadHash(t *testing.T) {
	for _, h := range oddHeads() {
		if got := impl.HeadHash(limitsFor(4), h); got != nil {
			t.Errorf("HeadHash(%+v) = %x", h, got)
		}
	}
	for _, l := range wrongLimits() {
		for _, h := range []impl.Head{oneHead(), headWith(0), {}} {
			if got := impl.HeadHash(l, h); got != nil {
				t.Errorf("HeadHash(%+v, %+v) = %x", l, h, got)
			}
		}
	}
}

// The limits say only whether there is a hash.
func TestHeadHashOfOtherLimits(t *testing.T) {
	for from := 1; from <= impl.MaxSigners; from++ {
		for _, set := range []int{0, 1, 1<<from - 1} {
			h := headOfSet(set, from)
			want := impl.HeadHash(limitsFor(from), h)
			for to := 1; to <= impl.MaxSigners; to++ {
				checkHeadHash(t, limitsFor(to), h)
				if (from > 8) == (to > 8) && set < 1<<to {
					checkHash(t, "HeadHash of other limits", impl.HeadHash(limitsFor(to), h), want)
				}
			}
		}
	}
	for _, l := range someLimits {
		checkHeadHash(t, l, headOfSet(1, l.N))
	}
}

// A header that differs in one part has another hash.
func TestHeadHashesDiffer(t *testing.T) {
	for _, h := range []impl.Head{oneHead(), headWith(0), headWith(15)} {
		want := impl.HeadHash(limitsFor(4), h)
		for _, other := range append(otherHeads(h), someHeads(4)...) {
			if got := impl.HeadHash(limitsFor(4), other); bytes.Equal(got, want) {
				t.Errorf("%+v and %+v have the hash %x", h, other, got)
			}
		}
	}
}

func TestLinksOfChildren(t *testing.T) {
	for n := 1; n <= impl.MaxSigners; n++ {
		l := limitsFor(n)
		for _, h := range someHeads(n) {
			for _, set := range []int{0, 1, 1<<n - 1} {
				child := childOf(h, set, n)
				checkLinks(t, l, h, child, hasChild(h))
				checkLinks(t, l, child, h, false)
				checkLinks(t, l, h, h, false)
				checkLinks(t, l, child, child, false)
				child.View, child.Proposer, child.Root = impl.MaxNum, n-1, goHash(99)
				checkLinks(t, l, h, child, hasChild(h))
			}
		}
	}
}

// Of a chain, each header links with the next one only.
func TestLinksOfChains(t *testing.T) {
	for _, n := range []int{1, 4, 8, 9, 10} {
		list := chainOf(n, 12)
		for i, a := range list {
			for j, b := range list {
				checkLinks(t, limitsFor(n), a, b, j == i+1)
			}
		}
	}
}

// Two children of one header both link with it, and not with each other.
func TestLinksOfForks(t *testing.T) {
	l, h := limitsFor(4), oneHead()
	first, second := childOf(h, 7, 4), childOf(h, 14, 4)
	second.View = first.View + 1
	checkLinks(t, l, h, first, true)
	checkLinks(t, l, h, second, true)
	checkLinks(t, l, first, second, false)
	checkLinks(t, l, second, first, false)
	checkLinks(t, l, first, childOf(first, 7, 4), true)
	checkLinks(t, l, second, childOf(first, 7, 4), false)
}

// The child is valid and names the parent by its hash, but its certificate is
// for another view or another height.
func TestLinksOfOtherViewsAndHeights(t *testing.T) {
	l, h := limitsFor(4), oneHead()
	for view := h.View - 3; view <= h.View+3; view++ {
		for height := h.Height - 3; height <= h.Height+3; height++ {
			q := qcFor(h, 7, 4)
			q.View, q.Height = view, height
			child := headOver(q)
			child.View = 400
			headCodec.checkValid(t, l, child)
			checkLinks(t, l, h, child, view == h.View && height == h.Height)
		}
	}
	for _, n := range edgeNumbers()[:18] {
		q := qcFor(h, 7, 4)
		q.View = n
		checkLinks(t, l, h, headOver(q), false)
		q.View, q.Height = h.View, n
		checkLinks(t, l, h, headOver(q), false)
	}
}

// View and Height of the certificate are right, but it is for another block.
func TestLinksOfOtherParents(t *testing.T) {
	l, h := limitsFor(4), oneHead()
	hash := goHash(72, rawHead(h))
	parents := [][]byte{goHash(7), goHash(0, rawHead(h)), goHash(73, rawHead(h)), goHash(72, []byte{4}, rawHead(h)), goHash(72), h.Parent, h.Root, filled(32, 0)}
	for i := range hash {
		changed := bytes.Clone(hash)
		changed[i] ^= 1 << (i % 8)
		parents = append(parents, changed)
	}
	for _, other := range append(otherHeads(h), someHeads(4)...) {
		parents = append(parents, goHash(72, rawHead(other)))
	}
	for _, parent := range parents {
		q := qcFor(h, 7, 4)
		q.Block = parent
		// A header with one more tag, one of no bytes, has the same bytes as h.
		checkLinks(t, l, h, headOver(q), bytes.Equal(parent, hash))
		headCodec.checkValid(t, l, headOver(q))
	}
}

// A parent that is not valid has no child, also where the child is valid and
// names the parent by the hash of its parts.
func TestLinksOfWrongParents(t *testing.T) {
	l := limitsFor(4)
	for _, h := range append(oddHeads(), otherHeads(oneHead())...) {
		child := childOf(h, 7, 4)
		if h.View >= 0 && h.Height >= 0 && hasChild(h) {
			headCodec.checkValid(t, l, child)
		}
		checkLinks(t, l, h, child, writtenHeadOk(l, h) && hasChild(h))
		child.Parent, child.Qc.Block = nil, nil
		checkLinks(t, l, h, child, false)
	}
}

// A child that is not valid has no parent; all other children keep it.
func TestLinksOfWrongChildren(t *testing.T) {
	l, h := limitsFor(4), oneHead()
	child := childOf(h, 7, 4)
	for _, other := range otherHeads(child) {
		checkLinks(t, l, h, other, writtenLinks(l, h, other))
		if !writtenHeadOk(l, other) {
			checkLinks(t, l, h, other, false)
		}
	}
	for _, root := range notHashes() {
		other := cloneHead(child)
		other.Root = root
		checkLinks(t, l, h, other, false)
	}
	for _, other := range append(oddHeads(), someHeads(4)...) {
		checkLinks(t, l, h, other, false)
		checkLinks(t, l, other, child, false)
	}
	checkLinks(t, l, impl.Head{}, impl.Head{}, false)
}

func TestLinksOfLimits(t *testing.T) {
	for from := 1; from <= impl.MaxSigners; from++ {
		list := chainOf(from, 3)
		for to := 1; to <= impl.MaxSigners; to++ {
			for i := range 2 {
				checkLinks(t, limitsFor(to), list[i], list[i+1], writtenLinks(limitsFor(to), list[i], list[i+1]))
			}
		}
		checkLinks(t, limitsFor(from), list[1], list[2], true)
	}
	h := oneHead()
	child := childOf(h, 7, 4)
	for _, l := range wrongLimits() {
		checkLinks(t, l, h, child, false)
		checkLinks(t, l, impl.Head{}, impl.Head{}, false)
	}
	for _, base := range someLimits {
		h := headOfSet(0, base.N)
		for _, f := range limitFields {
			for _, n := range f.edges() {
				l := f.with(base, n)
				checkLinks(t, l, h, childOf(h, 1, base.N), writtenLinks(l, h, childOf(h, 1, base.N)))
			}
		}
	}
}

// One of the two is valid only for more validators.
func TestLinksOfFewerValidators(t *testing.T) {
	l := limitsFor(3)
	h := oneHead() // its proposer and a signer of its certificate are validator 3
	checkLinks(t, l, h, childOf(h, 1, 4), false)
	h = headOfSet(1, 4)
	checkLinks(t, l, h, childOf(h, 8, 4), false)
	checkLinks(t, l, h, childOf(h, 7, 4), true)
	child := childOf(h, 7, 4)
	child.Proposer = 3
	checkLinks(t, l, h, child, false)
	checkLinks(t, limitsFor(4), h, child, true)
}

// Nil and empty slices are the same in both headers.
func TestLinksOfNil(t *testing.T) {
	l := limitsFor(4)
	for _, tags := range [][][]byte{nil, {}} {
		for _, more := range [][][]byte{nil, {}} {
			h := headWith(0)
			h.Qc.Tags = tags
			child := childOf(h, 0, 4)
			child.Qc.Tags = more
			checkLinks(t, l, h, child, true)
			checkHash(t, "HeadHash with no tags", impl.HeadHash(l, h), child.Parent)
		}
	}
	for _, x := range [][]byte{nil, {}} {
		h := impl.Head{Parent: x, Root: x, Qc: impl.Qc{Block: x, Bits: x}}
		checkLinks(t, l, h, h, false)
		checkLinks(t, l, oneHead(), h, false)
		checkLinks(t, l, h, oneHead(), false)
	}
}

// A chain, other valid headers, and headers that are not valid meet one another.
func TestLinksOfMixedHeaders(t *testing.T) {
	l := limitsFor(4)
	list := slices.Concat(chainOf(4, 4), someHeads(4), oddHeads())
	for _, a := range list {
		for _, b := range list {
			checkLinks(t, l, a, b, writtenLinks(l, a, b))
		}
	}
}
