package tests

import (
	"math"
	"slices"
	"testing"

	"loop.example/g00790/impl"
)

// P12 for chapter 18: the kinds and their names, and the messages of the Of
// functions. The other functions are tested in l17_msg_test.go.

// A msgKind is one of the seven kinds: what the tests know of its object, asked
// of a message that has the object.
type msgKind struct {
	kind   int
	name   string
	of     func(m impl.Msg) impl.Msg // what the program makes of the object of m
	valid  func(l impl.Limits) []impl.Msg
	few    func() []impl.Msg // valid for limitsFor(4)
	odd    func() []impl.Msg // not valid for limitsFor(4)
	inputs func() [][]byte   // encodings of objects, and bytes that are none

	ok     func(l impl.Limits, m impl.Msg) bool
	same   func(a, b impl.Msg) bool
	get    func(l impl.Limits, b []byte, at int) (impl.Msg, int, int)
	raw    func(m impl.Msg) []byte
	others func(m impl.Msg) []impl.Msg           // differ from m in one part of the object
	into   func(m impl.Msg, x impl.Msg) impl.Msg // m with the object of x
	clone  func(m impl.Msg) impl.Msg
	hold   func(m impl.Msg) held[impl.Msg]
	parts  func(m impl.Msg) [][]byte
	ruin   func(m impl.Msg)
}

// The objects of a kind are those that the tests of its chapter use.
type objects[T any] struct {
	valid  func(l impl.Limits) []T
	few    func() []T
	odd    func() []T
	inputs func() [][]byte
}

func kindOf[T any](kind int, name string, c codec[T], in func(m *impl.Msg) *T, of func(x T) impl.Msg, some objects[T]) msgKind {
	with := func(m impl.Msg, x T) impl.Msg {
		*in(&m) = x
		return m
	}
	withEach := func(m impl.Msg, list []T) []impl.Msg {
		var out []impl.Msg
		for _, x := range list {
			out = append(out, with(m, x))
		}
		return out
	}
	none := impl.Msg{Kind: kind}
	return msgKind{
		kind: kind, name: name, inputs: some.inputs,
		of:    func(m impl.Msg) impl.Msg { return of(*in(&m)) },
		valid: func(l impl.Limits) []impl.Msg { return withEach(none, some.valid(l)) },
		few:   func() []impl.Msg { return withEach(none, some.few()) },
		odd:   func() []impl.Msg { return withEach(none, some.odd()) },
		ok:    func(l impl.Limits, m impl.Msg) bool { return c.writtenOk(l, *in(&m)) },
		same:  func(a, b impl.Msg) bool { return c.writtenSame(*in(&a), *in(&b)) },
		get: func(l impl.Limits, b []byte, at int) (impl.Msg, int, int) {
			x, next, er := c.writtenGet(l, b, at)
			return with(none, x), next, er
		},
		raw:    func(m impl.Msg) []byte { return c.raw(*in(&m)) },
		others: func(m impl.Msg) []impl.Msg { return withEach(m, c.others(*in(&m))) },
		into:   func(m, x impl.Msg) impl.Msg { return with(m, *in(&x)) },
		clone:  func(m impl.Msg) impl.Msg { return with(m, c.clone(*in(&m))) },
		hold: func(m impl.Msg) held[impl.Msg] {
			h := c.hold(*in(&m))
			return held[impl.Msg]{with(m, h.given), h.check}
		},
		parts: func(m impl.Msg) [][]byte { return c.parts(*in(&m)) },
		ruin:  func(m impl.Msg) { c.ruin(*in(&m)) },
	}
}

var msgKinds = []msgKind{
	kindOf(1, "vote", voteCodec, func(m *impl.Msg) *impl.Vote { return &m.Vote }, impl.OfVote, objects[impl.Vote]{
		valid: func(l impl.Limits) []impl.Vote { return someVotes(l.N) },
		few: func() []impl.Vote {
			return []impl.Vote{oneVote(), {Block: goHash(1), Tag: goHash(1)}, {View: impl.MaxNum, Height: impl.MaxNum, Block: filled(32, 255), Who: 1, Tag: filled(32, 0)}}
		},
		odd: oddVotes, inputs: pureInputs,
	}),
	kindOf(2, "qc", qcCodec, func(m *impl.Msg) *impl.Qc { return &m.Qc }, impl.OfQc, objects[impl.Qc]{
		valid: func(l impl.Limits) []impl.Qc { return someQcs(l.N) },
		few:   func() []impl.Qc { return []impl.Qc{oneQc(), qcWith(0), qcWith(15)} },
		odd:   oddQcs, inputs: pureQcInputs,
	}),
	kindOf(3, "head", headCodec, func(m *impl.Msg) *impl.Head { return &m.Head }, impl.OfHead, objects[impl.Head]{
		valid: func(l impl.Limits) []impl.Head { return someHeads(l.N) },
		few:   func() []impl.Head { return []impl.Head{oneHead(), headWith(0), headWith(15)} },
		odd:   oddHeads, inputs: pureHeadInputs,
	}),
	kindOf(4, "block", blockCodec, func(m *impl.Msg) *impl.Block { return &m.Block }, impl.OfBlock, objects[impl.Block]{
		valid: validBlocks, few: pureBlocks, odd: oddBlocks, inputs: pureBlockInputs,
	}),
	kindOf(5, "tc", tcCodec, func(m *impl.Msg) *impl.Tc { return &m.Tc }, impl.OfTc, objects[impl.Tc]{
		valid: func(l impl.Limits) []impl.Tc { return someTcs(l.N) },
		few:   pureTcs, odd: oddTcs, inputs: pureTcInputs,
	}),
	kindOf(6, "proof", proofCodec, func(m *impl.Msg) *impl.Proof { return &m.Proof }, impl.OfProof, objects[impl.Proof]{
		valid: validProofs, few: pureProofs, odd: oddProofs, inputs: pureProofInputs,
	}),
	kindOf(7, "incl", inclCodec, func(m *impl.Msg) *impl.Incl { return &m.Incl }, impl.OfIncl, objects[impl.Incl]{
		valid: validIncls, few: pureIncls, odd: oddIncls, inputs: pureInclInputs,
	}),
}

// fewMsgs are valid messages of all kinds.
func fewMsgs() []impl.Msg {
	var list []impl.Msg
	for _, k := range msgKinds {
		list = append(list, k.few()...)
	}
	return list
}

// fullMsg has objects of all kinds, all of them valid.
func fullMsg(kind int) impl.Msg {
	m := impl.Msg{Kind: kind}
	for _, k := range msgKinds {
		m = k.into(m, k.few()[0])
	}
	return m
}

// notKinds are ints that resemble a kind, or are far from all of them.
func notKinds() []int {
	list := []int{-1, 0, 8, 9, 10, 16, 127, 128, 255, 256, math.MinInt, math.MinInt + 1, math.MaxInt - 1, math.MaxInt}
	for kind := 1; kind <= 7; kind++ {
		list = append(list, -kind, ^kind, kind+8, kind+128, kind+256, kind+1<<16, kind+1<<32, kind-256, kind+math.MinInt)
	}
	return append(list, notNumbers...)
}

func TestKindNumbers(t *testing.T) {
	given := []int{impl.KdVote, impl.KdQc, impl.KdHead, impl.KdBlock, impl.KdTc, impl.KdProof, impl.KdIncl}
	if !slices.Equal(given, []int{1, 2, 3, 4, 5, 6, 7}) {
		t.Errorf("the kinds are %v", given)
	}
}

func TestKindName(t *testing.T) {
	names := map[int]string{1: "vote", 2: "qc", 3: "head", 4: "block", 5: "tc", 6: "proof", 7: "incl"}
	for kind := -1000; kind <= 1000; kind++ {
		if got := impl.KindName(kind); got != names[kind] {
			t.Errorf("KindName(%d) = %q", kind, got)
		}
	}
	for _, kind := range slices.Concat(notKinds(), extremes) {
		if got := impl.KindName(kind); got != names[kind] {
			t.Errorf("KindName(%d) = %q", kind, got)
		}
	}
}

// checkOf gives the Of function of a kind the object of m.
func checkOf(t *testing.T, k msgKind, m impl.Msg) {
	t.Helper()
	want := k.into(impl.Msg{Kind: k.kind}, m)
	if got := k.of(m); !writtenMsgSame(got, want) || !impl.MsgSame(got, want) {
		t.Errorf("the message of the %s of %+v: %+v", k.name, m, got)
	}
}

// The object may be valid or not: the message has it either way.
func TestOf(t *testing.T) {
	for _, k := range msgKinds {
		for _, m := range slices.Concat(k.few(), k.odd(), k.valid(limitsFor(4)), k.valid(mostFor(10)), k.valid(someLimits[0])) {
			checkOf(t, k, m)
		}
		for _, m := range k.others(k.few()[0]) {
			checkOf(t, k, m)
		}
	}
}

// The zero value of an object makes a message that has nothing but its kind.
func TestOfZeroValues(t *testing.T) {
	given := []impl.Msg{
		impl.OfVote(impl.Vote{}), impl.OfQc(impl.Qc{}), impl.OfHead(impl.Head{}), impl.OfBlock(impl.Block{}),
		impl.OfTc(impl.Tc{}), impl.OfProof(impl.Proof{}), impl.OfIncl(impl.Incl{}),
	}
	for i, m := range given {
		if !writtenMsgSame(m, impl.Msg{Kind: i + 1}) {
			t.Errorf("the message of kind %d with the zero value: %+v", i+1, m)
		}
		msgCodec.checkSame(t, m, impl.Msg{Kind: i + 1}, true)
		msgCodec.checkSame(t, m, impl.Msg{}, false)
		// Of all zero values, that of a timeout certificate alone is valid.
		checkMsg(t, limitsFor(4), m, m.Kind == impl.KdTc)
	}
}

// A message of an Of function is valid where its object is.
func TestOfValidObjects(t *testing.T) {
	for _, k := range msgKinds {
		for _, l := range append(blockLimits(4), someLimits...) {
			for _, m := range k.valid(l) {
				checkMsg(t, l, k.of(m), true)
			}
		}
		for _, m := range slices.Concat(k.odd(), k.few()) {
			checkMsg(t, limitsFor(4), k.of(m), k.ok(limitsFor(4), m))
		}
	}
}
