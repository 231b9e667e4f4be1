package tests

import (
	"bytes"
	"math"
	"slices"
	"testing"

	"loop.example/g00790/impl"
)

// P12 for chapter 16: every function returns what the chapter specifies. The
// tests of TcHigh and TcBits stand in l15_entries_test.go.

// entryNumbers and entryTags are the fields of an entry; of each a test can change one alone.
var entryNumbers = map[string]func(e *impl.Entry) *int{
	"Who":  func(e *impl.Entry) *int { return &e.Who },
	"High": func(e *impl.Entry) *int { return &e.High },
}

var entryTags = map[string]func(e *impl.Entry) *[]byte{
	"Tag": func(e *impl.Entry) *[]byte { return &e.Tag },
}

// tcBy returns a certificate with entries of these validators in this order,
// whose views and tags differ.
func tcBy(signers ...int) impl.Tc {
	x := impl.Tc{View: 300}
	for i, who := range signers {
		x.Entries = append(x.Entries, impl.Entry{Who: who, High: (250 + 49*i*i) % 300, Tag: goHash(9, varint(who))})
	}
	return x
}

// tcOfSet returns a certificate of the validators of a set, in which validator i is the bit 2^i.
func tcOfSet(set int) impl.Tc { return tcBy(signersIn(set)...) }

// oneTc returns a certificate of three of four validators.
func oneTc() impl.Tc { return tcBy(0, 2, 3) }

func cloneEntry(e impl.Entry) impl.Entry {
	e.Tag = bytes.Clone(e.Tag)
	return e
}

// otherEntries are entries that differ from e in one field.
func otherEntries(e impl.Entry) []impl.Entry {
	return changedFields(e, cloneEntry, entryNumbers, entryTags)
}

func cloneTc(x impl.Tc) impl.Tc {
	return impl.Tc{View: x.View, Entries: entryCodec.cloneAll(x.Entries)}
}

// someTcs are valid certificates of n validators: of none, of one, of some and of all.
func someTcs(n int) []impl.Tc {
	var list []impl.Tc
	tags := [][]byte{filled(32, 0), filled(32, 255), mixedBytes(32, 12), goHash(1), filled(32, 128)}
	views := edgeNumbers()
	for i, set := range append(someSets(n), 0, 1, 1<<(n-1), 1<<n-1) {
		x := tcOfSet(set)
		x.View = views[i*5%len(views)]
		if len(x.Entries) > 0 {
			x.View = max(x.View, 1)
		}
		for at := range x.Entries {
			x.Entries[at].High = []int{0, x.View - 1, x.View / 2, min(1, x.View-1)}[(i+at)%4]
			x.Entries[at].Tag = tags[(i+at/3)%len(tags)]
		}
		list = append(list, x)
	}
	return list
}

func writtenTcOk(l impl.Limits, x impl.Tc) bool {
	if !writtenLimitsOk(l) || x.View < 0 || x.View > 1152921504606846975 || len(x.Entries) > l.N {
		return false
	}
	before := -1
	for _, e := range x.Entries {
		if e.Who <= before || e.Who > l.N-1 || e.High < 0 || e.High >= x.View || len(e.Tag) != 32 {
			return false
		}
		before = e.Who
	}
	return true
}

func writtenEntrySame(a, b impl.Entry) bool {
	return a.Who == b.Who && a.High == b.High && bytes.Equal(a.Tag, b.Tag)
}

func writtenTcSame(a, b impl.Tc) bool {
	return a.View == b.View && entryCodec.sameAll(a.Entries, b.Entries)
}

// partsOfRawTc are the encodings of all parts of a certificate: View, the number
// of entries, and three parts of each.
func partsOfRawTc(x impl.Tc) [][]byte {
	parts := [][]byte{varint(x.View), varint(len(x.Entries))}
	for _, e := range x.Entries {
		parts = append(parts, varint(e.Who), varint(e.High), e.Tag)
	}
	return parts
}

// rawTc puts the parts of a certificate together, valid or not.
func rawTc(x impl.Tc) []byte { return slices.Concat(partsOfRawTc(x)...) }

// writtenGetEntry names the parts one by one, as the chapter does.
func writtenGetEntry(n, view, before int, b []byte, at int) (impl.Entry, int, int) {
	none := impl.Entry{}
	who, next, er := impl.GetVar(b, at)
	if er != impl.ErOk {
		return none, 0, er
	}
	if who >= n {
		return none, 0, impl.ErValue
	}
	if who <= before {
		return none, 0, impl.ErOrder
	}
	high, next, er := impl.GetVar(b, next)
	if er != impl.ErOk {
		return none, 0, er
	}
	if high >= view {
		return none, 0, impl.ErOrder
	}
	tag, next, er := impl.GetRaw(b, next, 32)
	if er != impl.ErOk {
		return none, 0, er
	}
	return impl.Entry{Who: who, High: high, Tag: tag}, next, impl.ErOk
}

func writtenGetTc(l impl.Limits, b []byte, at int) (impl.Tc, int, int) {
	none := impl.Tc{}
	if !writtenLimitsOk(l) {
		return none, 0, impl.ErValue
	}
	view, next, er := impl.GetVar(b, at)
	if er != impl.ErOk {
		return none, 0, er
	}
	count, next, er := impl.GetVar(b, next)
	if er != impl.ErOk {
		return none, 0, er
	}
	if count > l.N {
		return none, 0, impl.ErLong
	}
	x, before := impl.Tc{View: view}, -1
	for range count {
		var e impl.Entry
		e, next, er = writtenGetEntry(l.N, view, before, b, next)
		if er != impl.ErOk {
			return none, 0, er
		}
		x.Entries, before = append(x.Entries, e), e.Who
	}
	return x, next, impl.ErOk
}

// otherTcs are certificates that differ from x in View, in one part of one entry,
// in the order of two entries, or in their number.
func otherTcs(x impl.Tc) []impl.Tc {
	var list []impl.Tc
	for _, view := range changedNumbers(x.View) {
		list = append(list, impl.Tc{View: view, Entries: entryCodec.cloneAll(x.Entries)})
	}
	for _, entries := range entryCodec.changedAll(x.Entries, impl.Entry{Who: 1, Tag: goHash(1)}) {
		list = append(list, impl.Tc{View: x.View, Entries: entries})
	}
	return list
}

var tcCodec = codec[impl.Tc]{
	name: "Tc", ok: impl.TcOk, same: impl.TcSame, put: impl.PutTc, get: impl.GetTc,
	writtenOk: writtenTcOk, writtenSame: writtenTcSame, writtenGet: writtenGetTc, raw: rawTc,
	others: otherTcs, clone: cloneTc, hold: holdTc, parts: partsOfTc, ruin: overwriteTc,
}

func TestTcKnown(t *testing.T) {
	first, second := filled(32, 7), filled(32, 9)
	most := filled(8, 255, 15)
	cases := []struct {
		n    int
		x    impl.Tc
		want []byte
	}{
		{4, impl.Tc{View: 5, Entries: []impl.Entry{{Who: 1, High: 4, Tag: first}, {Who: 3, High: 2, Tag: second}}}, slices.Concat([]byte{5, 2, 1, 4}, first, []byte{3, 2}, second)},
		{4, impl.Tc{View: 300, Entries: []impl.Entry{{Who: 0, High: 299, Tag: first}, {Who: 1, High: 128, Tag: first}, {Who: 2, High: 0, Tag: first}}}, slices.Concat([]byte{172, 2, 3, 0, 171, 2}, first, []byte{1, 128, 1}, first, []byte{2, 0}, first)},
		{1, impl.Tc{}, []byte{0, 0}},
		{10, impl.Tc{Entries: []impl.Entry{}}, []byte{0, 0}},
		{1, impl.Tc{View: 1, Entries: []impl.Entry{{Tag: second}}}, slices.Concat([]byte{1, 1, 0, 0}, second)},
		{10, impl.Tc{View: 1152921504606846975}, append(bytes.Clone(most), 0)},
		{10, impl.Tc{View: 1152921504606846975, Entries: []impl.Entry{{Who: 9, High: 1152921504606846974, Tag: first}}}, slices.Concat(most, []byte{1, 9, 254}, most[1:], first)},
	}
	for _, c := range cases {
		tcCodec.checkKnown(t, limitsFor(c.n), c.x, c.want)
	}
}

// Every set of validators of every number of them has a certificate.
func TestTcsOfEverySize(t *testing.T) {
	for n := 1; n <= impl.MaxSigners; n++ {
		for set := range 1 << n {
			tcCodec.checkValid(t, limitsFor(n), tcOfSet(set))
		}
		for _, x := range someTcs(n) {
			tcCodec.checkValid(t, limitsFor(n), x)
		}
	}
}

// View takes all edges, with entries that it allows, with one that it allows from
// 1 on, and without any.
func TestTcViews(t *testing.T) {
	l := limitsFor(4)
	for least, entries := range map[int][]impl.Entry{0: nil, 1: {{Tag: goHash(1)}}, 300: oneTc().Entries} {
		for _, view := range append(edgeNumbers(), 2, 299, 300, 301) {
			x := impl.Tc{View: view, Entries: entries}
			if view >= least {
				tcCodec.checkValid(t, l, x)
			} else {
				tcCodec.checkInvalid(t, l, x)
				tcCodec.checkNoneAt(t, l, rawTc(x), 0, impl.ErOrder)
			}
		}
		for _, view := range notNumbers {
			x := impl.Tc{View: view, Entries: entries}
			tcCodec.checkInvalid(t, l, x)
			tcCodec.checkNoneAt(t, l, rawTc(x), 0, impl.ErVar)
		}
		for _, view := range extremes {
			x := impl.Tc{View: view, Entries: entries}
			tcCodec.checkOk(t, l, nil, x, view >= least && view < 1000)
		}
	}
}

// Each number of validators meets each number of entries. More of them than
// validators cannot ascend, but it is their number that GetTc refuses.
func TestTcCounts(t *testing.T) {
	for n := 1; n <= impl.MaxSigners; n++ {
		for _, count := range []int{0, 1, 2, 3, 4, 5, 6, 7, 8, 9, 10, 11, 12, 16, 127, 128, 300} {
			x := impl.Tc{View: 9}
			for who := range count {
				x.Entries = append(x.Entries, impl.Entry{Who: who, High: 8, Tag: filled(32, byte(who))})
			}
			if count <= n {
				tcCodec.checkValid(t, limitsFor(n), x)
				continue
			}
			tcCodec.checkInvalid(t, limitsFor(n), x)
			tcCodec.checkNoneAt(t, limitsFor(n), rawTc(x), 0, impl.ErLong)
			for at := range x.Entries {
				x.Entries[at].Who = at * (n - 1) / count
			}
			tcCodec.checkInvalid(t, limitsFor(n), x)
			tcCodec.checkNoneAt(t, limitsFor(n), rawTc(x), 0, impl.ErLong)
		}
	}
}

// checkWho is for a certificate whose only fault can be Who of the entry at a place.
func checkWho(t *testing.T, n int, x impl.Tc, at int) {
	t.Helper()
	l, who, before, behind := limitsFor(n), x.Entries[at].Who, -1, n
	if at > 0 {
		before = x.Entries[at-1].Who
	}
	if at+1 < len(x.Entries) {
		behind = x.Entries[at+1].Who
	}
	switch {
	case who > before && who < behind:
		tcCodec.checkValid(t, l, x)
		return
	case who > impl.MaxNum || who < 0:
		tcCodec.checkNoneAt(t, l, rawTc(x), 0, impl.ErVar)
	case who >= n:
		tcCodec.checkNoneAt(t, l, rawTc(x), 0, impl.ErValue)
	default: // in the order of the entry itself, or in that of the one behind it
		tcCodec.checkNoneAt(t, l, rawTc(x), 0, impl.ErOrder)
	}
	tcCodec.checkInvalid(t, l, x)
}

// Who of the first, a middle and the last entry takes all values: below 0, those
// of the other entries and of those between them, and from N on.
func TestTcWho(t *testing.T) {
	for n := 1; n <= impl.MaxSigners; n++ {
		for _, whole := range []impl.Tc{tcOfSet(1<<n - 1), tcOfSet(0b1010101010 % (1 << n)), tcOfSet(0b0101101101 % (1 << n)), tcOfSet(1), tcOfSet(1 << (n - 1))} {
			for at := range whole.Entries {
				for who := -3; who < n+9; who++ {
					x := cloneTc(whole)
					x.Entries[at].Who = who
					checkWho(t, n, x, at)
				}
				for _, who := range append(notSigners(n), extremes...) {
					x := cloneTc(whole)
					x.Entries[at].Who = who
					checkWho(t, n, x, at)
				}
			}
		}
	}
}

// Every sequence of up to five validators of five is in ascending order or not.
func TestTcOrder(t *testing.T) {
	l := limitsFor(5)
	eachInput([]byte{0, 1, 2, 3, 4}, 5, func(b []byte) {
		var signers []int
		ascending := true
		for i, c := range b {
			signers = append(signers, int(c))
			ascending = ascending && (i == 0 || b[i-1] < c)
		}
		x := tcBy(signers...)
		if got := impl.TcOk(l, x); got != ascending {
			t.Errorf("TcOk of the entries of %v: %v", signers, got)
		}
		if ascending {
			tcCodec.checkValid(t, l, x)
		} else {
			tcCodec.checkNoneAt(t, l, rawTc(x), 0, impl.ErOrder)
		}
	})
}

// Two entries of a long list are exchanged, one is moved elsewhere, or all are turned around.
func TestTcOfExchangedEntries(t *testing.T) {
	for n := 2; n <= impl.MaxSigners; n++ {
		l, whole := limitsFor(n), tcOfSet(1<<n-1)
		refuse := func(entries []impl.Entry) {
			t.Helper()
			x := impl.Tc{View: 300, Entries: entries}
			tcCodec.checkInvalid(t, l, x)
			tcCodec.checkNoneAt(t, l, rawTc(x), 0, impl.ErOrder)
		}
		for i := range n {
			for j := range n {
				if i == j {
					continue
				}
				exchanged, moved, twice := slices.Clone(whole.Entries), slices.Clone(whole.Entries), slices.Clone(whole.Entries)
				exchanged[i], exchanged[j] = exchanged[j], exchanged[i]
				refuse(exchanged)
				moved = slices.Insert(slices.Delete(moved, i, i+1), j, whole.Entries[i])
				refuse(moved)
				twice[i] = whole.Entries[j]
				refuse(twice)
			}
		}
		slices.Reverse(whole.Entries)
		refuse(whole.Entries)
	}
}

// High of the first, a middle and the last entry takes all edges of every View.
func TestTcHighs(t *testing.T) {
	l := limitsFor(5)
	for _, view := range append(edgeNumbers(), 2, 3, 300)[1:] {
		whole := tcBy(0, 1, 4)
		whole.View = view
		for i := range whole.Entries {
			whole.Entries[i].High = view - 1
		}
		for at := range whole.Entries {
			for _, high := range append(edgeNumbers(), view-2, view-1, view, view+1, view/2) {
				x := cloneTc(whole)
				x.Entries[at].High = high
				switch {
				case high >= 0 && high < view:
					tcCodec.checkValid(t, l, x)
				case high >= view && high <= impl.MaxNum:
					tcCodec.checkNoneAt(t, l, rawTc(x), 0, impl.ErOrder)
					fallthrough
				default:
					tcCodec.checkInvalid(t, l, x)
				}
			}
			for _, high := range notNumbers {
				x := cloneTc(whole)
				x.Entries[at].High = high
				tcCodec.checkInvalid(t, l, x)
				tcCodec.checkNoneAt(t, l, rawTc(x), 0, impl.ErVar)
			}
		}
	}
}

// No High is less than View 0, and none is less than a View below 0.
func TestTcOfNoHigh(t *testing.T) {
	for _, view := range []int{math.MinInt, -2, -1, 0} {
		for _, high := range []int{math.MinInt, -3, -2, -1, 0, 1, impl.MaxNum, math.MaxInt} {
			tcCodec.checkInvalid(t, limitsFor(4), impl.Tc{View: view, Entries: []impl.Entry{{High: high, Tag: goHash(1)}}})
		}
	}
	for _, high := range []int{0, 1, 127, 128, impl.MaxNum} {
		x := impl.Tc{Entries: []impl.Entry{{High: high, Tag: goHash(1)}}}
		tcCodec.checkNoneAt(t, limitsFor(4), rawTc(x), 0, impl.ErOrder)
	}
}

// Tag of the first, a middle and the last entry has any length.
func TestTcTags(t *testing.T) {
	for _, n := range []int{1, 3, 10} {
		whole := tcOfSet(1<<n - 1)
		for at := range whole.Entries {
			for size := range 100 {
				x := cloneTc(whole)
				x.Entries[at].Tag = mixedBytes(size, size)
				tcCodec.checkOk(t, limitsFor(n), nil, x, size == 32)
				tcCodec.checkOk(t, limitsFor(n), []byte{5}, x, size == 32)
			}
			for _, tag := range append(notHashes(), filled(31, 0), filled(33, 0)) {
				x := cloneTc(whole)
				x.Entries[at].Tag = tag
				tcCodec.checkInvalid(t, limitsFor(n), x)
			}
			// The tags have the right number of bytes together.
			x := cloneTc(whole)
			x.Entries[at].Tag, x.Entries[(at+1)%n].Tag = filled(31, 1), filled(33, 2)
			tcCodec.checkInvalid(t, limitsFor(n), x)
		}
	}
}

// Every part takes valid and other values together with those of all other parts.
func TestTcParts(t *testing.T) {
	var entries []impl.Entry
	for _, who := range []int{-1, 0, 1, 2} {
		for _, high := range []int{-1, 0, 1, impl.MaxNum} {
			for _, tag := range [][]byte{nil, goHash(1), filled(33, 1)} {
				entries = append(entries, impl.Entry{Who: who, High: high, Tag: tag})
			}
		}
	}
	for _, l := range []impl.Limits{limitsFor(1), limitsFor(2), {}} {
		for _, view := range []int{math.MinInt, -1, 0, 1, 2, impl.MaxNum, impl.MaxNum + 1} {
			for _, first := range entries {
				tcCodec.checkOk(t, l, nil, impl.Tc{View: view, Entries: []impl.Entry{first}}, writtenTcOk(l, impl.Tc{View: view, Entries: []impl.Entry{first}}))
				for _, second := range entries {
					x := impl.Tc{View: view, Entries: []impl.Entry{first, second}}
					tcCodec.checkOk(t, l, nil, x, writtenTcOk(l, x))
				}
			}
		}
	}
}

func TestTcLimits(t *testing.T) {
	for _, base := range append(someLimits, limitsFor(4)) {
		for _, set := range []int{0, 1, 1 << (base.N - 1), 1<<base.N - 1} {
			tcCodec.checkLimits(t, base, tcOfSet(set))
		}
	}
	tcCodec.checkInvalid(t, impl.Limits{}, impl.Tc{})
}

func TestTcOfWrongLimits(t *testing.T) {
	inputs := [][]byte{nil, {}, {0}, {128}, {128, 0}, {0, 0}, {5, 11}, rawTc(oneTc()), rawTc(oneTc())[:40], rawTc(tcBy(2, 1)), filled(200, 255), filled(200, 0)}
	tcCodec.checkWrongLimits(t, inputs, oneTc(), tcBy(), tcBy(4), impl.Tc{})
}

func TestTcOffsets(t *testing.T) {
	tcCodec.checkOffsets(t, limitsFor(4), rawTc(oneTc()), rawTc(tcBy()), filled(200, 1), filled(200, 128))
}

func TestTcSameOfOneDifference(t *testing.T) {
	odd := []impl.Tc{{}, {View: -7, Entries: []impl.Entry{{}, {}, {Who: -1, High: math.MinInt, Tag: []byte{1}}}}, tcBy(5, 5, 2), tcBy(0, 1, 2, 3, 4, 5, 6, 7, 8, 9, 10, 11)}
	for _, x := range append(odd, oneTc(), tcBy(), tcBy(3), tcBy(0, 9)) {
		tcCodec.checkDifferences(t, x)
	}
}

// Small certificates meet one another; the same bytes may stand in one tag or another.
func TestTcSameOfSmallTcs(t *testing.T) {
	entries := []impl.Entry{{}, {Tag: []byte{}}, {Who: 1}, {High: 1}, {Tag: []byte{0}}, {Tag: []byte{0, 0}}, {Who: 1, High: 1, Tag: []byte{1}}}
	lists := [][]impl.Entry{nil, {}}
	for _, first := range entries {
		lists = append(lists, []impl.Entry{first}, []impl.Entry{first, {}, {}})
		for _, second := range entries {
			lists = append(lists, []impl.Entry{first, second})
		}
	}
	var list []impl.Tc
	for _, entries := range lists {
		list = append(list, impl.Tc{Entries: entries}, impl.Tc{View: 1, Entries: entries})
	}
	tcCodec.checkEachPair(t, list)
}

func TestTcOfNil(t *testing.T) {
	l, x := limitsFor(4), oneTc()
	for _, b := range [][]byte{nil, {}} {
		got, ok := impl.PutTc(l, b, x)
		checkPut(t, "PutTc behind nothing", got, ok, rawTc(x))
		tcCodec.checkNoneAt(t, l, b, 0, impl.ErShort)
		tcCodec.checkSame(t, impl.Tc{Entries: []impl.Entry{{Tag: b}}}, impl.Tc{Entries: []impl.Entry{{Tag: []byte{0}}}}, false)
		for _, tag := range [][]byte{nil, {}} {
			tcCodec.checkSame(t, impl.Tc{Entries: []impl.Entry{{Tag: b}}}, impl.Tc{Entries: []impl.Entry{{Tag: tag}}}, true)
			tcCodec.checkSame(t, impl.Tc{Entries: []impl.Entry{{Tag: b}, {Tag: tag}}}, impl.Tc{Entries: []impl.Entry{{Tag: tag}, {Tag: b}}}, true)
		}
		tcCodec.checkInvalid(t, l, impl.Tc{View: 1, Entries: []impl.Entry{{Tag: b}}})
	}
	for _, entries := range [][]impl.Entry{nil, {}} {
		tcCodec.checkValid(t, l, impl.Tc{View: 7, Entries: entries})
		tcCodec.checkSame(t, impl.Tc{Entries: entries}, impl.Tc{}, true)
		tcCodec.checkSame(t, impl.Tc{Entries: entries}, impl.Tc{Entries: []impl.Entry{}}, true)
		tcCodec.checkSame(t, impl.Tc{Entries: entries}, impl.Tc{Entries: []impl.Entry{{}}}, false)
	}
}
