package tests

import (
	"bytes"
	"fmt"
	"slices"
	"sync"
	"testing"

	"loop.example/g00790/impl"
)

// Chapter 1 for chapter 18: arguments and their spare capacity stay unchanged (b,
// every slice of a message and of an object), results are new memory, and no
// function panics.

func holdMsg(m impl.Msg) held[impl.Msg] {
	var checks []func(t *testing.T, what string)
	for _, k := range msgKinds {
		h := k.hold(m)
		m, checks = h.given, append(checks, h.check)
	}
	return held[impl.Msg]{m, func(t *testing.T, what string) {
		t.Helper()
		for i, check := range checks {
			check(t, what+", "+msgKinds[i].name)
		}
	}}
}

// partsOfMsg are all byte strings of a message.
func partsOfMsg(m impl.Msg) [][]byte {
	var parts [][]byte
	for _, k := range msgKinds {
		parts = append(parts, k.parts(m)...)
	}
	return parts
}

// overwriteMsg changes everything that belongs to a message.
func overwriteMsg(m impl.Msg) {
	for _, k := range msgKinds {
		k.ruin(m)
	}
}

// pureMsgs are messages of which some are valid and some are not.
func pureMsgs() []impl.Msg {
	list := append(fewMsgs(), impl.Msg{}, emptyMsg(), fullMsg(0), fullMsg(4), fullMsg(8))
	for _, k := range msgKinds {
		for i, m := range k.odd() {
			// The changed bytes of one part resemble each other: every twentieth is enough.
			if i%20 == 0 {
				list = append(list, m)
			}
		}
	}
	return list
}

// pureMsgInputs are encodings of messages, and bytes that are none.
func pureMsgInputs() [][]byte {
	list := [][]byte{nil, {}, {0}, {8}, {255, 1}, filled(100, 1), filled(300, 255)}
	for _, k := range msgKinds {
		list = append(list, []byte{byte(k.kind)})
		for _, m := range k.few() {
			b := rawMsg(m)
			list = append(list, b, b[:len(b)-1], b[:len(b)/2], append(bytes.Clone(b), 0), append(bytes.Clone(b), b...))
		}
		for i, object := range k.inputs() {
			if i%4 == 0 {
				list = append(list, append([]byte{byte(k.kind)}, object...))
			}
		}
	}
	return list
}

// The slice of Encode is its own, also at the next call.
func TestEncodePure(t *testing.T) {
	for _, m := range pureMsgs() {
		for _, l := range []impl.Limits{limitsFor(4), mostFor(10), {}} {
			what := fmt.Sprintf("Encode(%v, %+v)", l, m)
			h := holdMsg(m)
			first, ok := impl.Encode(l, h.given)
			h.check(t, what)
			want := bytes.Clone(first)
			second, _ := impl.Encode(l, h.given)
			overwriteBytes(first)
			h.check(t, what+", its result overwritten")
			checkHash(t, what+", the first result overwritten", second, want)
			again, okAgain := impl.Encode(l, h.given)
			overwriteMsg(h.given)
			if ok != okAgain || !bytes.Equal(again, want) {
				t.Errorf("%s: %v, %v and then %v, %v", what, want, ok, again, okAgain)
			}
		}
	}
}

// sharedObjects have all their parts in the given memory, one in another.
func sharedObjects(all []byte) impl.Msg {
	hash := all[40:72]
	qc := impl.Qc{View: 299, Height: 2, Block: hash, Bits: hash[:1], Tags: [][]byte{hash, all[41:73]}}
	head := impl.Head{View: 300, Height: 3, Parent: hash, Root: all[60:92], Qc: qc}
	end := qc
	end.View, end.Height = 300, 3
	return impl.Msg{
		Vote:  impl.Vote{View: 300, Height: 2, Block: hash, Who: 3, Tag: all[41:73]},
		Qc:    qc,
		Head:  head,
		Block: impl.Block{Head: head, Txs: [][]byte{hash[:10], hash[5:15], hash[:0], hash[:10]}},
		Tc:    impl.Tc{View: 300, Entries: []impl.Entry{{Who: 1, Tag: hash}, {Who: 2, Tag: hash}, {Who: 3, Tag: all[41:73]}}},
		Proof: impl.Proof{Heads: []impl.Head{head, head, head}, Qc: end},
		Incl:  impl.Incl{Height: 3, N: 4, At: 1, Tx: hash[:10], Path: [][]byte{hash, hash}},
	}
}

// The parts of a message may lie in one another: its encoding does not.
func TestEncodeOfSharedMemory(t *testing.T) {
	l, all := limitsFor(4), mixedBytes(100, 3)
	all[40] = 3
	before := bytes.Clone(all)
	objects := sharedObjects(all)
	for _, k := range msgKinds {
		m := k.into(impl.Msg{Kind: k.kind}, objects)
		if k.kind == impl.KdBlock {
			m.Block.Head.Root = goRoot(m.Block.Txs)
		}
		want := rawMsg(cloneMsg(m))
		checkMsg(t, l, m, true)
		first, _ := impl.Encode(l, m)
		overwriteBytes(first)
		checkHash(t, "the memory of a "+k.name, all, before)
		second, _ := impl.Encode(l, m)
		overwriteBytes(all)
		checkHash(t, "the encoding of a "+k.name, second, want)
		copy(all, before)
	}
}

// Neither the bytes nor what lies behind them is changed or kept; no two slices
// of the message share memory.
func TestDecodePure(t *testing.T) { msgCodec.checkGetPure(t, pureMsgInputs()) }

func TestDecodedMsgsAreNew(t *testing.T) {
	for _, m := range fewMsgs() {
		msgCodec.checkGetNew(t, limitsFor(4), m)
	}
}

func TestMsgQuestionsPure(t *testing.T) {
	for _, one := range []impl.Msg{fewMsgs()[0], fullMsg(6), {}} {
		msgCodec.checkQuestionsPure(t, one, pureMsgs())
	}
	for _, m := range pureMsgs() {
		h := holdMsg(m)
		for range 2 {
			if got, want := impl.MsgSize(limitsFor(4), h.given), len(rawMsg(m)); got != 0 && got != want {
				t.Errorf("MsgSize of %+v: %d", m, got)
			}
			h.check(t, fmt.Sprintf("MsgSize of %+v", m))
		}
	}
}

// checkOfPure gives the Of function of a kind the object of m, whose slices have
// spare capacity.
func checkOfPure(t *testing.T, k msgKind, m impl.Msg) {
	t.Helper()
	what := fmt.Sprintf("the message of the %s of %+v", k.name, m)
	want := k.into(impl.Msg{Kind: k.kind}, k.clone(m))
	h := k.hold(m)
	first, second := k.of(h.given), k.of(h.given)
	h.check(t, what)
	overwriteMsg(first)
	h.check(t, what+", overwritten")
	if !writtenMsgSame(second, want) {
		t.Errorf("%s, the first one overwritten: %+v", what, second)
	}
	third := k.of(h.given)
	k.ruin(h.given)
	if !writtenMsgSame(second, want) || !writtenMsgSame(third, want) {
		t.Errorf("%s, the argument overwritten: %+v and %+v", what, second, third)
	}
	checkElementsApart(t, what, partsOfMsg(third))
}

func TestOfPure(t *testing.T) {
	for _, k := range msgKinds {
		for _, m := range slices.Concat(k.few(), k.odd(), []impl.Msg{{}, emptyMsg()}) {
			checkOfPure(t, k, m)
		}
	}
}

// One slice stands in several places of an object, or one lies in another: in the
// message, each place has memory of its own.
func TestOfSharedMemory(t *testing.T) {
	for _, k := range msgKinds {
		all := mixedBytes(100, 3)
		before := bytes.Clone(all)
		objects := sharedObjects(all)
		m := k.of(objects)
		want := k.into(impl.Msg{Kind: k.kind}, cloneMsg(objects))
		overwriteBytes(all)
		if !writtenMsgSame(m, want) {
			t.Errorf("the message of the shared %s became %+v", k.name, m)
		}
		copy(all, before)
		checkElementsApart(t, "the message of a shared "+k.name, partsOfMsg(m))
		overwriteMsg(m)
		checkHash(t, "the memory of a "+k.name, all, before)
	}
}

// What is appended to a list of a message does not reach a copy of it, nor the
// list that it was made of.
func TestPartsAppendedToMsgs(t *testing.T) {
	block, tc, proof, qc, incl := oneBlock(), oneTc(), proofWith(3), oneQc(), oneIncl()
	lists := func(of func(m impl.Msg) impl.Msg) {
		a := of(impl.Msg{Block: block, Tc: tc, Proof: proof, Qc: qc, Incl: incl})
		for _, list := range [][][]byte{a.Block.Txs, a.Qc.Tags, a.Incl.Path, a.Proof.Qc.Tags} {
			first, second := append(list, goHash(1)), append(list, goHash(2))
			if !bytes.Equal(first[len(list)], goHash(1)) || !bytes.Equal(second[len(list)], goHash(2)) {
				t.Errorf("the lists with one more element are %v and %v", first, second)
			}
		}
		heads, entries := a.Proof.Heads, a.Tc.Entries
		firstHeads, secondHeads := append(heads, scribbledHead(1)), append(heads, scribbledHead(2))
		firstEntries, secondEntries := append(entries, impl.Entry{Who: 1}), append(entries, impl.Entry{Who: 2})
		if firstHeads[len(heads)].View != 1 || secondHeads[len(heads)].View != 2 || firstEntries[len(entries)].Who != 1 || secondEntries[len(entries)].Who != 2 {
			t.Errorf("the lists with one more element are %v and %v, %v and %v", firstHeads, secondHeads, firstEntries, secondEntries)
		}
	}
	for _, k := range msgKinds {
		lists(k.of)
		lists(func(m impl.Msg) impl.Msg {
			b, _ := impl.Encode(limitsFor(4), k.into(impl.Msg{Kind: k.kind}, m))
			read, _ := impl.Decode(limitsFor(4), b)
			return read
		})
	}
}

// Every function takes all ints, whatever the other arguments are.
func TestMsgsOfExtremes(t *testing.T) {
	for i, n := range extremes {
		for _, k := range append(extremes, 4, 5, 6) {
			m := fullMsg(k)
			m.Vote.View, m.Qc.Height, m.Head.Proposer, m.Block.Head.View, m.Tc.View, m.Incl.N, m.Incl.At = n, n, n, n, n, n, n
			m.Proof.Heads, m.Tc.Entries[0].High, m.Vote.Who = make([]impl.Head, i), n, k
			for _, l := range []impl.Limits{limitsFor(4), limitsFor(n), {N: n, Tx: k, Txs: n, Frame: k, Heads: n}, {N: 4, Tx: n, Txs: k, Frame: 1, Heads: 3}, proofLimits(4, n)} {
				checkMsg(t, l, m, writtenMsgOk(l, m))
				msgCodec.checkSame(t, m, cloneMsg(m), true)
				for _, kind := range msgKinds {
					one := kind.into(impl.Msg{Kind: k}, m)
					checkMsg(t, l, one, writtenMsgOk(l, one))
					checkOf(t, kind, m)
				}
			}
		}
	}
	for _, n := range extremes {
		for _, l := range append(wrongLimits(), limitsFor(10), limitsFor(n)) {
			for _, b := range pureMsgInputs() {
				msgCodec.checkInput(t, l, b, 0)
			}
		}
	}
}

// A call in between, also a refused one, leaves nothing behind.
func TestMsgsKeepNoState(t *testing.T) {
	l := limitsFor(4)
	list := fewMsgs()
	for i, b := range pureMsgInputs() {
		m := list[i%len(list)]
		impl.Decode(limitsFor(i), b)
		impl.Decode(l, append([]byte{byte(i)}, b...))
		impl.Decode(impl.Limits{}, b)
		impl.Encode(limitsFor(i), fullMsg(i))
		impl.Encode(impl.Limits{}, m)
		impl.MsgSize(mostFor(10), list[(i+1)%len(list)])
		impl.MsgOk(impl.Limits{}, m)
		impl.MsgSame(m, impl.Msg{})
		overwriteMsg(msgKinds[i%7].of(fullMsg(i)))
		checkWholeMsg(t, l, m)
		msgCodec.checkNoneAt(t, l, rawMsg(m)[:1], 0, impl.ErShort)
	}
}

func TestMsgsAtTheSameTime(t *testing.T) {
	var group sync.WaitGroup
	shared := fewMsgs()
	for n := 1; n <= impl.MaxSigners; n++ {
		group.Go(func() {
			for _, k := range msgKinds {
				for i, m := range k.valid(limitsFor(n)) {
					if i%7 == n%7 {
						checkWholeMsg(t, limitsFor(n), m)
						checkWholeMsg(t, limitsFor(4), shared[i%len(shared)])
						checkOf(t, k, m)
					}
				}
			}
		})
	}
	group.Wait()
}
