package tests

import (
	"math"
	"slices"
	"testing"

	"loop.example/g00790/impl"
)

// P12 for chapter 18: MsgOk, MsgSame, Encode, Decode and MsgSize return what the
// chapter specifies.

// writtenMsgOk asks all objects: one for what is valid, the others for nothing.
func writtenMsgOk(l impl.Limits, m impl.Msg) bool {
	valid := false
	for _, k := range msgKinds {
		if k.kind == m.Kind {
			valid = k.ok(l, m)
		} else if !k.same(m, impl.Msg{}) {
			return false
		}
	}
	return valid
}

func writtenMsgSame(a, b impl.Msg) bool {
	for _, k := range msgKinds {
		if !k.same(a, b) {
			return false
		}
	}
	return a.Kind == b.Kind
}

// rawMsg puts Kind and the parts of its object together, valid or not.
func rawMsg(m impl.Msg) []byte {
	for _, k := range msgKinds {
		if k.kind == m.Kind {
			return append([]byte{byte(k.kind)}, k.raw(m)...)
		}
	}
	return nil
}

// writtenDecode asks one question behind the other, as the chapter does.
func writtenDecode(l impl.Limits, b []byte) (impl.Msg, int) {
	none := impl.Msg{}
	if !writtenLimitsOk(l) {
		return none, impl.ErValue
	}
	if len(b) == 0 {
		return none, impl.ErShort
	}
	if b[0] < 1 || b[0] > 7 {
		return none, impl.ErKind
	}
	m, next, er := msgKinds[b[0]-1].get(l, b, 1)
	if er != impl.ErOk {
		return none, er
	}
	if next < len(b) {
		return none, impl.ErLeft
	}
	return m, impl.ErOk
}

// otherMsgs differ from m in Kind, or in one part of one object.
func otherMsgs(m impl.Msg) []impl.Msg {
	var list []impl.Msg
	for _, kind := range changedNumbers(m.Kind) {
		other := cloneMsg(m)
		other.Kind = kind
		list = append(list, other)
	}
	for _, k := range msgKinds {
		list = append(list, k.others(m)...)
	}
	return list
}

func cloneMsg(m impl.Msg) impl.Msg {
	for _, k := range msgKinds {
		m = k.clone(m)
	}
	return m
}

// behind are the bytes of b from an offset. Another offset is that of the nearest end.
func behind(b []byte, at int) []byte { return b[min(max(at, 0), len(b)):] }

// msgCodec has Encode and Decode in the form of the functions of the objects: an
// encoding is put behind b, and a message begins at an offset. It ends where b ends.
var msgCodec = codec[impl.Msg]{
	name: "Msg", ok: impl.MsgOk, same: impl.MsgSame,
	put: func(l impl.Limits, b []byte, m impl.Msg) ([]byte, bool) {
		out, ok := impl.Encode(l, m)
		if !ok {
			return out, false
		}
		return slices.Concat(b, out), true
	},
	get: func(l impl.Limits, b []byte, at int) (impl.Msg, int, int) {
		m, er := impl.Decode(l, behind(b, at))
		if er != impl.ErOk {
			return m, 0, er
		}
		return m, len(b), er
	},
	writtenOk: writtenMsgOk, writtenSame: writtenMsgSame, raw: rawMsg,
	writtenGet: func(l impl.Limits, b []byte, at int) (impl.Msg, int, int) {
		m, er := writtenDecode(l, behind(b, at))
		if er != impl.ErOk {
			return m, 0, er
		}
		return m, len(b), er
	},
	others: otherMsgs, clone: cloneMsg, hold: holdMsg, parts: partsOfMsg, ruin: overwriteMsg,
}

// checkMsg compares what is valid, what is encoded and its length with what is wanted.
func checkMsg(t *testing.T, l impl.Limits, m impl.Msg, want bool) {
	t.Helper()
	msgCodec.checkOk(t, l, nil, m, want)
	size := 0
	if want {
		size = len(rawMsg(m))
	}
	if got := impl.MsgSize(l, m); got != size {
		t.Errorf("MsgSize(%+v, %+v) = %d instead of %d", l, m, got, size)
	}
}

// checkWholeMsg also decodes the encoding of a valid message.
func checkWholeMsg(t *testing.T, l impl.Limits, m impl.Msg) {
	t.Helper()
	checkMsg(t, l, m, true)
	msgCodec.checkAt(t, l, rawMsg(m), 0, m, len(rawMsg(m)), impl.ErOk)
}

func TestMsgKnown(t *testing.T) {
	seven, eight, nine := filled(32, 7), filled(32, 8), filled(32, 9)
	ofNone := fromHex(t, "e3b0c44298fc1c149afbf4c8996fb92427ae41e4649b934ca495991b7852b855")
	ofEmpty := fromHex(t, "6e340b9cffb37a989ca544e6bb780a2c78901d3fb33738768511a30617afa01d")
	vote := impl.Vote{View: 300, Height: 2, Block: seven, Who: 3, Tag: nine}
	qc := impl.Qc{View: 5, Height: 2, Block: seven, Bits: []byte{5}, Tags: [][]byte{nine, eight}}
	head := impl.Head{View: 5, Height: 2, Proposer: 1, Parent: seven, Root: ofNone, Qc: impl.Qc{View: 4, Height: 1, Block: seven, Bits: []byte{0}}}
	headBytes := slices.Concat([]byte{5, 2, 1}, seven, ofNone, []byte{4, 1}, seven, []byte{0})
	other := head
	other.Root = ofEmpty
	otherBytes := slices.Concat([]byte{5, 2, 1}, seven, ofEmpty, []byte{4, 1}, seven, []byte{0})
	tc := impl.Tc{View: 301, Entries: []impl.Entry{{Who: 1, High: 299, Tag: nine}, {Who: 3, High: 300, Tag: eight}}}
	qcBytes := slices.Concat([]byte{5, 2}, seven, []byte{5}, nine, eight)
	cases := []struct {
		m    impl.Msg
		want []byte
	}{
		{impl.Msg{Kind: 1, Vote: vote}, slices.Concat([]byte{1, 172, 2, 2}, seven, []byte{3}, nine)},
		{impl.Msg{Kind: 2, Qc: qc}, append([]byte{2}, qcBytes...)},
		{impl.Msg{Kind: 2, Qc: impl.Qc{Block: eight, Bits: []byte{0}}}, slices.Concat([]byte{2, 0, 0}, eight, []byte{0})},
		{impl.Msg{Kind: 3, Head: head}, append([]byte{3}, headBytes...)},
		{impl.Msg{Kind: 4, Block: impl.Block{Head: head}}, slices.Concat([]byte{4}, headBytes, []byte{0})},
		{impl.Msg{Kind: 4, Block: impl.Block{Head: other, Txs: [][]byte{{}}}}, slices.Concat([]byte{4}, otherBytes, []byte{1, 0})},
		{impl.Msg{Kind: 5, Tc: tc}, slices.Concat([]byte{5, 173, 2, 2, 1, 171, 2}, nine, []byte{3, 172, 2}, eight)},
		{impl.Msg{Kind: 5}, []byte{5, 0, 0}},
		{impl.Msg{Kind: 6, Proof: impl.Proof{Heads: []impl.Head{head, other, head}, Qc: qc}}, slices.Concat([]byte{6, 3}, headBytes, otherBytes, headBytes, qcBytes)},
		{impl.Msg{Kind: 7, Incl: impl.Incl{Height: 7, N: 3, At: 2, Tx: []byte{9}, Path: [][]byte{seven}}}, slices.Concat([]byte{7, 7, 3, 2, 1, 9}, seven)},
		{impl.Msg{Kind: 7, Incl: impl.Incl{N: 1}}, []byte{7, 0, 1, 0, 0}},
	}
	for _, c := range cases {
		got, ok := impl.Encode(limitsFor(4), c.m)
		checkPut(t, "Encode of a known message", got, ok, c.want)
		if size := impl.MsgSize(limitsFor(4), c.m); size != len(c.want) {
			t.Errorf("MsgSize of %+v: %d", c.m, size)
		}
		msgCodec.checkOk(t, limitsFor(4), nil, c.m, true)
		msgCodec.checkAt(t, limitsFor(4), c.want, 0, c.m, len(c.want), impl.ErOk)
	}
}

// eachValidMsg calls f for messages with objects of every size, at limits of all sizes.
func eachValidMsg(f func(l impl.Limits, m impl.Msg)) {
	limits := slices.Clone(someLimits)
	for n := 1; n <= impl.MaxSigners; n++ {
		limits = append(limits, blockLimits(n)...)
	}
	for most := 3; most <= impl.MaxHeads; most++ {
		limits = append(limits, proofLimits(3, most))
	}
	for _, l := range limits {
		for _, k := range msgKinds {
			for _, m := range k.valid(l) {
				f(l, m)
			}
		}
	}
}

func TestMsgsOfEverySize(t *testing.T) {
	eachValidMsg(func(l impl.Limits, m impl.Msg) { checkWholeMsg(t, l, m) })
}

// A message has the object of one kind, and Kind is another one or none.
func TestMsgsOfOtherKinds(t *testing.T) {
	l := limitsFor(4)
	for _, m := range fewMsgs() {
		for _, kind := range append(notKinds(), 1, 2, 3, 4, 5, 6, 7) {
			other := m
			other.Kind = kind
			checkMsg(t, l, other, kind == m.Kind)
		}
	}
	for _, kind := range append(notKinds(), 1, 2, 3, 4, 5, 6, 7) {
		checkMsg(t, l, fullMsg(kind), false)
		// No object but the timeout certificate of no entries is valid where it is zero.
		checkMsg(t, l, impl.Msg{Kind: kind}, kind == 5)
		checkMsg(t, impl.Limits{}, impl.Msg{Kind: kind}, false)
	}
}

func TestMsgsOfInvalidObjects(t *testing.T) {
	for _, k := range msgKinds {
		for _, m := range slices.Concat(k.odd(), k.others(k.few()[0])) {
			for _, l := range []impl.Limits{limitsFor(4), limitsFor(3), mostFor(4)} {
				checkMsg(t, l, m, k.ok(l, m))
			}
			if got, er := impl.Decode(limitsFor(4), rawMsg(m)); er == impl.ErOk && !writtenMsgOk(limitsFor(4), got) {
				t.Errorf("%+v is decoded from the parts of %+v", got, m)
			}
		}
	}
}

// One other object is not zero, in one field or in all of them.
func TestMsgsWithAnotherObject(t *testing.T) {
	l := limitsFor(4)
	for _, k := range msgKinds {
		for _, m := range k.few() {
			checkWholeMsg(t, l, m)
			for _, other := range msgKinds {
				if other.kind == k.kind {
					continue
				}
				for _, x := range slices.Concat(other.others(m), []impl.Msg{other.into(m, other.few()[0])}) {
					checkMsg(t, l, x, false)
				}
			}
		}
	}
}

// Every field of every object is set alone, with the least that is not zero.
func TestMsgsWithOneMoreField(t *testing.T) {
	empty, noHead, noEntry := [][]byte{nil}, []impl.Head{{}}, []impl.Entry{{}}
	fields := map[string]func(m *impl.Msg){
		"Vote.View":            func(m *impl.Msg) { m.Vote.View = 1 },
		"Vote.Height":          func(m *impl.Msg) { m.Vote.Height = -1 },
		"Vote.Block":           func(m *impl.Msg) { m.Vote.Block = []byte{0} },
		"Vote.Who":             func(m *impl.Msg) { m.Vote.Who = 1 },
		"Vote.Tag":             func(m *impl.Msg) { m.Vote.Tag = []byte{0} },
		"Qc.View":              func(m *impl.Msg) { m.Qc.View = math.MinInt },
		"Qc.Height":            func(m *impl.Msg) { m.Qc.Height = 1 },
		"Qc.Block":             func(m *impl.Msg) { m.Qc.Block = []byte{0} },
		"Qc.Bits":              func(m *impl.Msg) { m.Qc.Bits = []byte{0} },
		"Qc.Tags":              func(m *impl.Msg) { m.Qc.Tags = empty },
		"Head.View":            func(m *impl.Msg) { m.Head.View = 1 },
		"Head.Height":          func(m *impl.Msg) { m.Head.Height = 1 },
		"Head.Proposer":        func(m *impl.Msg) { m.Head.Proposer = 1 },
		"Head.Parent":          func(m *impl.Msg) { m.Head.Parent = []byte{0} },
		"Head.Root":            func(m *impl.Msg) { m.Head.Root = []byte{0} },
		"Head.Qc.View":         func(m *impl.Msg) { m.Head.Qc.View = 1 },
		"Head.Qc.Height":       func(m *impl.Msg) { m.Head.Qc.Height = 1 },
		"Head.Qc.Block":        func(m *impl.Msg) { m.Head.Qc.Block = []byte{0} },
		"Head.Qc.Bits":         func(m *impl.Msg) { m.Head.Qc.Bits = []byte{0} },
		"Head.Qc.Tags":         func(m *impl.Msg) { m.Head.Qc.Tags = empty },
		"Block.Head.View":      func(m *impl.Msg) { m.Block.Head.View = 1 },
		"Block.Head.Height":    func(m *impl.Msg) { m.Block.Head.Height = 1 },
		"Block.Head.Proposer":  func(m *impl.Msg) { m.Block.Head.Proposer = 1 },
		"Block.Head.Parent":    func(m *impl.Msg) { m.Block.Head.Parent = []byte{0} },
		"Block.Head.Root":      func(m *impl.Msg) { m.Block.Head.Root = []byte{0} },
		"Block.Head.Qc.View":   func(m *impl.Msg) { m.Block.Head.Qc.View = 1 },
		"Block.Head.Qc.Height": func(m *impl.Msg) { m.Block.Head.Qc.Height = 1 },
		"Block.Head.Qc.Block":  func(m *impl.Msg) { m.Block.Head.Qc.Block = []byte{0} },
		"Block.Head.Qc.Bits":   func(m *impl.Msg) { m.Block.Head.Qc.Bits = []byte{0} },
		"Block.Head.Qc.Tags":   func(m *impl.Msg) { m.Block.Head.Qc.Tags = empty },
		"Block.Txs":            func(m *impl.Msg) { m.Block.Txs = empty },
		"Tc.View":              func(m *impl.Msg) { m.Tc.View = 1 },
		"Tc.Entries":           func(m *impl.Msg) { m.Tc.Entries = noEntry },
		"Proof.Heads":          func(m *impl.Msg) { m.Proof.Heads = noHead },
		"Proof.Qc.View":        func(m *impl.Msg) { m.Proof.Qc.View = 1 },
		"Proof.Qc.Height":      func(m *impl.Msg) { m.Proof.Qc.Height = 1 },
		"Proof.Qc.Block":       func(m *impl.Msg) { m.Proof.Qc.Block = []byte{0} },
		"Proof.Qc.Bits":        func(m *impl.Msg) { m.Proof.Qc.Bits = []byte{0} },
		"Proof.Qc.Tags":        func(m *impl.Msg) { m.Proof.Qc.Tags = empty },
		"Incl.Height":          func(m *impl.Msg) { m.Incl.Height = 1 },
		"Incl.N":               func(m *impl.Msg) { m.Incl.N = 1 },
		"Incl.At":              func(m *impl.Msg) { m.Incl.At = 1 },
		"Incl.Tx":              func(m *impl.Msg) { m.Incl.Tx = []byte{0} },
		"Incl.Path":            func(m *impl.Msg) { m.Incl.Path = empty },
	}
	for name, set := range fields {
		var alone impl.Msg
		set(&alone)
		msgCodec.checkSame(t, alone, impl.Msg{}, false)
		for _, k := range msgKinds {
			m := k.few()[0]
			set(&m)
			// The field may belong to the object of the kind itself.
			own := k.into(impl.Msg{Kind: k.kind}, m)
			if want := writtenMsgSame(m, own) && k.ok(limitsFor(4), m); impl.MsgOk(limitsFor(4), m) != want {
				t.Errorf("a %s with %s: MsgOk is not %v", k.name, name, want)
			}
			checkMsg(t, limitsFor(4), m, writtenMsgOk(limitsFor(4), m))
		}
	}
}

// emptyMsg is the zero message with empty slices in place of nil.
func emptyMsg() impl.Msg {
	none := []byte{}
	qc := impl.Qc{Block: none, Bits: none, Tags: [][]byte{}}
	head := impl.Head{Parent: none, Root: none, Qc: qc}
	return impl.Msg{
		Vote: impl.Vote{Block: none, Tag: none}, Qc: qc, Head: head,
		Block: impl.Block{Head: head, Txs: [][]byte{}},
		Tc:    impl.Tc{Entries: []impl.Entry{}},
		Proof: impl.Proof{Heads: []impl.Head{}, Qc: qc},
		Incl:  impl.Incl{Tx: none, Path: [][]byte{}},
	}
}

// Other objects are nil in one message and empty in the other.
func TestMsgsOfNil(t *testing.T) {
	l := limitsFor(4)
	msgCodec.checkSame(t, emptyMsg(), impl.Msg{}, true)
	msgCodec.checkSame(t, emptyMsg(), impl.Msg{Kind: 1}, false)
	for _, k := range msgKinds {
		nothing := emptyMsg()
		nothing.Kind = k.kind
		checkMsg(t, l, nothing, k.kind == 5)
		msgCodec.checkSame(t, nothing, impl.Msg{Kind: k.kind}, true)
		msgCodec.checkSame(t, nothing, k.of(impl.Msg{}), true)
		checkOf(t, k, nothing)
		for _, m := range k.few() {
			empty := k.into(nothing, m)
			checkWholeMsg(t, l, empty)
			msgCodec.checkSame(t, empty, m, true)
			msgCodec.checkSame(t, k.of(m), empty, true)
			for _, other := range msgKinds {
				// One object alone is empty, or all but one are.
				msgCodec.checkSame(t, other.into(m, empty), other.into(empty, m), true)
				checkWholeMsg(t, l, other.into(m, empty))
				checkWholeMsg(t, l, other.into(empty, m))
			}
		}
	}
}

func TestMsgZero(t *testing.T) {
	for _, l := range append(someLimits, limitsFor(4), impl.Limits{}) {
		checkMsg(t, l, impl.Msg{}, false)
		checkMsg(t, l, emptyMsg(), false)
	}
	msgCodec.checkSame(t, impl.Msg{}, impl.Msg{}, true)
	for _, m := range fewMsgs() {
		msgCodec.checkSame(t, m, impl.Msg{}, false)
		m.Kind = 0
		msgCodec.checkSame(t, m, impl.Msg{}, writtenMsgSame(m, impl.Msg{}))
		checkMsg(t, limitsFor(4), m, false)
	}
}

func TestMsgSameOfOneDifference(t *testing.T) {
	list := []impl.Msg{{}, {Kind: -7}, {Kind: math.MaxInt}, fullMsg(0), fullMsg(6), emptyMsg()}
	for _, m := range append(list, fewMsgs()...) {
		msgCodec.checkDifferences(t, m)
	}
	for _, m := range fewMsgs() {
		for _, kind := range append(notKinds(), 1, 2, 3, 4, 5, 6, 7) {
			other := cloneMsg(m)
			other.Kind = kind
			msgCodec.checkSame(t, m, other, kind == m.Kind)
		}
	}
}

// Small messages meet one another: the same object, or parts of it, may stand in
// the place of one kind or of another.
func TestMsgSameOfSmallMsgs(t *testing.T) {
	qc := impl.Qc{View: 1, Block: []byte{1}}
	head := impl.Head{View: 1, Parent: []byte{1}}
	list := []impl.Msg{
		{}, emptyMsg(), {Vote: impl.Vote{View: 1, Block: []byte{1}}}, {Vote: impl.Vote{View: 1, Tag: []byte{1}}},
		{Qc: qc}, {Head: impl.Head{Qc: qc}}, {Block: impl.Block{Head: impl.Head{Qc: qc}}}, {Proof: impl.Proof{Qc: qc}}, {Proof: impl.Proof{Heads: []impl.Head{{Qc: qc}}}},
		{Head: head}, {Block: impl.Block{Head: head}}, {Proof: impl.Proof{Heads: []impl.Head{head}}}, {Head: head, Qc: qc}, {Block: impl.Block{Head: head}, Qc: qc},
		{Tc: impl.Tc{View: 1}}, {Tc: impl.Tc{Entries: []impl.Entry{{}}}}, {Block: impl.Block{Txs: [][]byte{nil}}}, {Incl: impl.Incl{Path: [][]byte{nil}}}, {Incl: impl.Incl{Height: 1}},
	}
	for _, m := range list[:len(list):len(list)] {
		for kind := 1; kind <= 8; kind++ {
			m.Kind = kind
			list = append(list, m)
		}
	}
	msgCodec.checkEachPair(t, append(list, fewMsgs()...))
}

// Each limit takes all its edges.
func TestMsgLimits(t *testing.T) {
	for _, base := range append(someLimits, limitsFor(4)) {
		for _, k := range msgKinds {
			list := k.valid(base)
			for i, m := range append(k.few(), list[:min(6, len(list))]...) {
				for _, f := range limitFields {
					for _, n := range f.edges() {
						l := f.with(base, n)
						checkMsg(t, l, m, writtenMsgOk(l, m))
						msgCodec.checkInput(t, l, rawMsg(m), 0)
						if n < f.least || n > f.most {
							checkMsg(t, l, m, false)
							msgCodec.checkNoneAt(t, l, rawMsg(m), 0, impl.ErValue)
						} else if f.name == "Frame" && i >= len(k.few()) {
							checkWholeMsg(t, l, m)
						}
					}
				}
			}
		}
	}
}

// Limits that are not valid come before all that is wrong with the bytes or the message.
func TestMsgOfWrongLimits(t *testing.T) {
	inputs := [][]byte{nil, {}, {0}, {8}, {255}, {1}, {7}, {128, 0}, {5, 0, 0}, {5, 0, 0, 0}, {7, 0, 1, 0, 0}, filled(400, 255), filled(400, 3)}
	for _, m := range fewMsgs() {
		inputs = append(inputs, rawMsg(m), rawMsg(m)[:len(rawMsg(m))-1], append(rawMsg(m), 0))
	}
	msgCodec.checkWrongLimits(t, inputs, append(fewMsgs(), impl.Msg{}, impl.Msg{Kind: 8}, fullMsg(1))...)
	for _, l := range wrongLimits() {
		for _, m := range fewMsgs() {
			checkMsg(t, l, m, false)
		}
	}
}

// A block is longer than a frame may be: that is for the frame to say.
func TestMsgsLongerThanFrames(t *testing.T) {
	l := impl.Limits{N: 10, Tx: 40, Txs: 8, Frame: 1, Heads: 5}
	for _, k := range msgKinds {
		for _, m := range k.valid(l) {
			checkWholeMsg(t, l, m)
		}
	}
}

// MsgSize is the length of what Encode returns, and 0 where it returns nothing.
func TestMsgSizes(t *testing.T) {
	ask := func(l impl.Limits, m impl.Msg) {
		b, ok := impl.Encode(l, m)
		if got := impl.MsgSize(l, m); got != len(b) || (got > 0) != ok {
			t.Errorf("MsgSize(%+v, %+v) = %d, and Encode returns %v, %v", l, m, got, b, ok)
		}
	}
	for _, l := range []impl.Limits{limitsFor(4), limitsFor(1), mostFor(10), {}} {
		for _, k := range msgKinds {
			for _, m := range append(k.odd(), k.few()...) {
				ask(l, m)
			}
		}
		ask(l, impl.Msg{})
	}
}
