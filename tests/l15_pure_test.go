package tests

import (
	"bytes"
	"fmt"
	"math"
	"slices"
	"sync"
	"testing"

	"loop.example/g00790/impl"
)

// Chapter 1 for chapter 16: arguments and their spare capacity stay unchanged (b,
// the list of entries, and Tag of each), results are new memory, and no function panics.

// entryCodec has what lists of entries need; an entry has no encoding of its own.
var entryCodec = codec[impl.Entry]{
	name: "Entry", writtenSame: writtenEntrySame, others: otherEntries, clone: cloneEntry,
	hold: holdEntry, parts: partsOfEntry, ruin: overwriteEntry,
}

func holdEntry(e impl.Entry) held[impl.Entry] {
	given, want := e, cloneEntry(e)
	given.Tag = roomy(e.Tag)
	return held[impl.Entry]{given, func(t *testing.T, what string) {
		t.Helper()
		checkRoomy(t, what+", Tag", given.Tag, want.Tag)
	}}
}

func partsOfEntry(e impl.Entry) [][]byte { return [][]byte{e.Tag} }

func overwriteEntry(e impl.Entry) { overwriteBytes(e.Tag) }

func holdTc(x impl.Tc) held[impl.Tc] {
	spare := impl.Entry{Who: -spareByte, High: -spareByte, Tag: []byte{spareByte}}
	entries := entryCodec.holdAll(x.Entries, spare)
	return held[impl.Tc]{impl.Tc{View: x.View, Entries: entries.given}, entries.check}
}

// partsOfTc are all byte strings of a certificate.
func partsOfTc(x impl.Tc) [][]byte { return entryCodec.partsOfAll(x.Entries) }

// overwriteTc changes everything that belongs to a certificate.
func overwriteTc(x impl.Tc) {
	entryCodec.ruinAll(x.Entries, impl.Entry{Who: scribble, High: scribble, Tag: []byte{scribble}})
}

// oddTcs are certificates that are not valid for four validators.
func oddTcs() []impl.Tc {
	list := []impl.Tc{{View: -1}, {View: math.MinInt, Entries: []impl.Entry{{}}}, {Entries: []impl.Entry{{}, {Tag: []byte{}}, {Tag: []byte{1}}}}, tcBy(2, 1), tcBy(1, 1), tcBy(4), tcBy(0, 1, 2, 3, 4), tcBy(9, 8, 7, 6, 5, 4, 3, 2, 1, 0)}
	for _, x := range otherTcs(oneTc()) {
		if !writtenTcOk(limitsFor(4), x) {
			list = append(list, x)
		}
	}
	return list
}

// pureTcs are valid certificates.
func pureTcs() []impl.Tc {
	return []impl.Tc{oneTc(), tcBy(), {Entries: []impl.Entry{}}, tcBy(0), tcBy(0, 1, 2, 3), {View: 1, Entries: []impl.Entry{{Who: 2, Tag: filled(32, 255)}, {Who: 3, Tag: filled(32, 255)}}}}
}

// pureTcInputs are encodings of certificates, and bytes that are none.
func pureTcInputs() [][]byte {
	list := [][]byte{nil, {}, {128}, {128, 0}, {1, 2}, {5, 11}, filled(36, 0), filled(36, 1), filled(72, 1), filled(80, 255), rawTc(tcBy(2, 1)), rawTc(tcBy(4)), rawTc(tcOfHighs(300)), rawTc(tcBy(0, 1, 2, 3, 4))}
	for _, x := range pureTcs() {
		b := rawTc(x)
		list = append(list, b, b[:len(b)-1], b[:len(b)/2], append(bytes.Clone(b), b...), append([]byte{0}, b...))
	}
	return list
}

func TestPutTcPure(t *testing.T) { tcCodec.checkPutPure(t, append(oddTcs(), pureTcs()...)) }

// The slice of PutTc is its own: also where b has room for all of it, and where
// the tags lie in b, behind b, or in one another.
func TestPutTcOfSharedMemory(t *testing.T) {
	all := mixedBytes(300, 3)
	hash := all[40:72]
	for _, tags := range [][][]byte{{hash, hash, hash}, {all[0:32], all[1:33], all[32:64]}, {all[8:40], all[40:72], all[268:]}, {hash}, {}} {
		x := impl.Tc{View: 300}
		for who, tag := range tags {
			x.Entries = append(x.Entries, impl.Entry{Who: who, High: 2, Tag: tag})
		}
		tcCodec.checkPutShared(t, all, []int{0, 1, 10, 40, 72, 299, 300}, x)
	}
}

func TestPutTcTwice(t *testing.T) {
	second := tcBy(1, 2)
	second.View = 301
	tcCodec.checkPutTwice(t, oneTc(), second)
}

func TestGetTcPure(t *testing.T) { tcCodec.checkGetPure(t, pureTcInputs()) }

// What is appended to the entries of a certificate does not reach a copy of it.
func TestEntriesAppendedToCopies(t *testing.T) {
	for _, x := range pureTcs() {
		read, _, _ := impl.GetTc(limitsFor(4), rawTc(x), 0)
		first, second := append(read.Entries, impl.Entry{Who: 5}), append(read.Entries, impl.Entry{Who: 6})
		if !entryCodec.sameAll(first, append(slices.Clone(x.Entries), impl.Entry{Who: 5})) || !entryCodec.sameAll(second, append(slices.Clone(x.Entries), impl.Entry{Who: 6})) {
			t.Errorf("the entries of %+v with one more are %v and %v", x, first, second)
		}
	}
}

func TestTcQuestionsPure(t *testing.T) {
	tcCodec.checkQuestionsPure(t, oneTc(), append(oddTcs(), pureTcs()...))
}

// TcHigh and TcBits change nothing, and the bitmap is new each time.
func TestTcAnswersPure(t *testing.T) {
	for _, x := range append(oddTcs(), pureTcs()...) {
		for _, l := range []impl.Limits{limitsFor(4), limitsFor(10), {}} {
			what := fmt.Sprintf("TcHigh and TcBits(%v, %+v)", l, x)
			h := holdTc(x)
			high := impl.TcHigh(h.given)
			first, ok := impl.TcBits(l, h.given)
			want := bytes.Clone(first)
			h.check(t, what)
			overwriteBytes(first)
			h.check(t, what+", the result overwritten")
			second, okAgain := impl.TcBits(l, h.given)
			highAgain := impl.TcHigh(h.given)
			overwriteTc(h.given)
			if ok != okAgain || high != highAgain || !bytes.Equal(second, want) {
				t.Errorf("%s: %d, %v, %v and then %d, %v, %v", what, high, want, ok, highAgain, second, okAgain)
			}
			checkTcBits(t, l, x)
		}
	}
}

func TestTcResultsAreNew(t *testing.T) {
	for _, x := range pureTcs() {
		tcCodec.checkGetNew(t, limitsFor(4), x)
	}
}

// Every function takes all ints, whatever the other arguments are.
func TestTcsOfExtremes(t *testing.T) {
	for i, n := range extremes {
		for _, m := range extremes {
			tags := [][]byte{nil, goHash(1), filled(33, 1)}
			x := impl.Tc{View: n, Entries: []impl.Entry{{Who: m, High: n, Tag: tags[1]}, {Who: n, High: m, Tag: tags[i%3]}}}
			for _, y := range []impl.Tc{x, {View: m, Entries: x.Entries[:1]}, {View: n, Entries: x.Entries[1:]}, oneTc(), {View: m}} {
				for _, l := range []impl.Limits{limitsFor(8), {N: n, Tx: m, Txs: n, Frame: m, Heads: n}, limitsFor(m)} {
					tcCodec.checkOk(t, l, nil, y, writtenTcOk(l, y))
					tcCodec.checkSame(t, y, cloneTc(y), true)
					checkTcBits(t, l, y)
				}
			}
			checkHigh(t, x, max(n, m))
		}
	}
	tcCodec.checkExtremes(t, pureTcInputs())
}

// A call in between, also a refused one, leaves nothing behind.
func TestTcsKeepNoState(t *testing.T) {
	l, x := limitsFor(4), oneTc()
	for i, b := range pureTcInputs() {
		impl.GetTc(limitsFor(i), b, 0)
		impl.GetTc(impl.Limits{}, b, 1)
		impl.PutTc(limitsFor(i), b, tcBy(i, i+1))
		impl.PutTc(l, b, impl.Tc{View: -i})
		impl.TcOk(impl.Limits{}, x)
		impl.TcSame(x, impl.Tc{})
		impl.TcHigh(tcOfHighs(i, -i))
		impl.TcBits(limitsFor(i), tcBy(i))
		tcCodec.checkValid(t, l, x)
		tcCodec.checkNoneAt(t, l, rawTc(x)[:50], 0, impl.ErShort)
		checkTcBits(t, l, x)
		checkHigh(t, x, 299)
	}
}

func TestTcsAtTheSameTime(t *testing.T) {
	var group sync.WaitGroup
	all, shared := make([]byte, 3, 500), oneTc()
	for n := 1; n <= impl.MaxSigners; n++ {
		group.Go(func() {
			for _, x := range someTcs(n) {
				tcCodec.checkOk(t, limitsFor(n), all, x, true)
				tcCodec.checkAt(t, limitsFor(n), rawTc(x), 0, x, len(rawTc(x)), impl.ErOk)
				checkTcBits(t, limitsFor(n), x)
				checkHigh(t, shared, 299)
				tcCodec.checkValid(t, limitsFor(4), shared)
			}
		})
	}
	group.Wait()
}
