package tests

import (
	"bytes"
	"fmt"
	"maps"
	"math"
	"slices"
	"testing"

	"loop.example/g00790/impl"
)

// A codec is one type of chapters 12 to 17: the functions of the program for it,
// and what the chapter says of it, written out a second time.
type codec[T any] struct {
	name string
	ok   func(l impl.Limits, x T) bool
	same func(a, b T) bool
	put  func(l impl.Limits, b []byte, x T) ([]byte, bool)
	get  func(l impl.Limits, b []byte, at int) (T, int, int)

	writtenOk   func(l impl.Limits, x T) bool
	writtenSame func(a, b T) bool
	writtenGet  func(l impl.Limits, b []byte, at int) (T, int, int)
	raw         func(x T) []byte // the parts put together, valid or not

	others func(x T) []T // each differs from x in one part
	clone  func(x T) T
	hold   func(x T) held[T]
	parts  func(x T) [][]byte // all byte strings of x
	ruin   func(x T)          // overwrites everything that belongs to x
}

// A held value is one as it was given to a function: each slice has spare capacity.
type held[T any] struct {
	given T
	check func(t *testing.T, what string) // reports a change of the value or of the capacity
}

// holdAll holds a list of values; spare ones stand in the capacity behind it.
func (c codec[T]) holdAll(list []T, spare T) held[[]T] {
	var given []T
	var all []held[T]
	for _, x := range append(slices.Clone(list), slices.Repeat([]T{spare}, spareSize)...) {
		h := c.hold(x)
		given, all = append(given, h.given), append(all, h)
	}
	return held[[]T]{given[:len(list)], func(t *testing.T, what string) {
		t.Helper()
		for i, x := range given {
			if !slices.EqualFunc(c.parts(x), c.parts(all[i].given), samePlace) || !c.writtenSame(x, all[i].given) {
				t.Errorf("%s: element %d of %d became %+v", what, i, len(list), x)
				continue
			}
			all[i].check(t, fmt.Sprintf("%s, element %d", what, i))
		}
	}}
}

// ruinAll also overwrites the capacity behind the list.
func (c codec[T]) ruinAll(list []T, scribbled T) {
	all := list[:cap(list)]
	for i := range all {
		c.ruin(all[i])
		all[i] = scribbled
	}
}

func (c codec[T]) cloneAll(list []T) []T {
	var out []T
	for _, x := range list {
		out = append(out, c.clone(x))
	}
	return out
}

func (c codec[T]) sameAll(a, b []T) bool { return slices.EqualFunc(a, b, c.writtenSame) }

// partsOfAll are all byte strings of a list.
func (c codec[T]) partsOfAll(list []T) [][]byte {
	var parts [][]byte
	for _, x := range list {
		parts = append(parts, c.parts(x)...)
	}
	return parts
}

// changedAll are lists that differ from list in one value, in the order of two
// values, or in their number.
func (c codec[T]) changedAll(list []T, more T) [][]T {
	var none T
	lists := [][]T{append(slices.Clone(list), more), append([]T{more}, list...), append(slices.Clone(list), none)}
	for i, x := range list {
		lists = append(lists, slices.Delete(slices.Clone(list), i, i+1), slices.Insert(slices.Clone(list), i, x))
		for _, other := range c.others(x) {
			changed := slices.Clone(list)
			changed[i] = other
			lists = append(lists, changed)
		}
		for j := range i {
			changed := slices.Clone(list)
			changed[i], changed[j] = list[j], x
			if !c.writtenSame(x, list[j]) {
				lists = append(lists, changed)
			}
		}
	}
	return lists
}

// fieldsOf are the fields of x of one kind, in the order of their names.
func fieldsOf[T, F any](fields map[string]func(x *T) *F) []func(x *T) *F {
	var list []func(x *T) *F
	for _, name := range slices.Sorted(maps.Keys(fields)) {
		list = append(list, fields[name])
	}
	return list
}

// changedFields are copies of x of which each differs in one number, in one byte
// of a part, or in the length of a part.
func changedFields[T any](x T, clone func(x T) T, numbers map[string]func(x *T) *int, parts map[string]func(x *T) *[]byte) []T {
	var list []T
	for _, in := range fieldsOf(numbers) {
		for _, n := range changedNumbers(*in(&x)) {
			other := clone(x)
			*in(&other) = n
			list = append(list, other)
		}
	}
	for _, in := range fieldsOf(parts) {
		for _, b := range changedBytes(*in(&x)) {
			other := clone(x)
			*in(&other) = b
			list = append(list, other)
		}
	}
	return list
}

// checkOk compares the validation, and the encoding behind b, with what is wanted.
func (c codec[T]) checkOk(t *testing.T, l impl.Limits, b []byte, x T, want bool) {
	t.Helper()
	if got := c.ok(l, x); got != want {
		t.Errorf("%sOk(%+v, %+v) = %v", c.name, l, x, got)
	}
	var bytesWanted []byte
	if want {
		bytesWanted = slices.Concat(b, c.raw(x))
	}
	// The words are put together only for an error, as this is asked very often.
	if got, ok := c.put(l, b, x); ok != want || !bytes.Equal(got, bytesWanted) {
		t.Errorf("Put%s(%+v, %v, %+v): %v, %v instead of %v", c.name, l, b, x, got, ok, bytesWanted)
	}
}

// checkSame asks in both directions.
func (c codec[T]) checkSame(t *testing.T, a, b T, want bool) {
	t.Helper()
	if c.same(a, b) != want || c.same(b, a) != want {
		t.Errorf("%sSame of %+v and %+v: %v and %v", c.name, a, b, c.same(a, b), c.same(b, a))
	}
}

// checkAt reports what is decoded if it is not as wanted.
func (c codec[T]) checkAt(t *testing.T, l impl.Limits, b []byte, at int, want T, wantNext, wantEr int) {
	t.Helper()
	x, next, er := c.get(l, b, at)
	if !c.writtenSame(x, want) || next != wantNext || er != wantEr {
		t.Errorf("Get%s(%+v, %v, %d): %+v, %d, %d instead of %+v, %d, %d", c.name, l, b, at, x, next, er, want, wantNext, wantEr)
	}
}

func (c codec[T]) checkNoneAt(t *testing.T, l impl.Limits, b []byte, at int, code int) {
	t.Helper()
	var none T
	c.checkAt(t, l, b, at, none, 0, code)
}

// checkInput compares what is decoded with the chapter.
func (c codec[T]) checkInput(t *testing.T, l impl.Limits, b []byte, at int) {
	t.Helper()
	x, next, er := c.writtenGet(l, b, at)
	c.checkAt(t, l, b, at, x, next, er)
}

// checkKnown compares a valid value with an encoding that the test writes down.
func (c codec[T]) checkKnown(t *testing.T, l impl.Limits, x T, want []byte) {
	t.Helper()
	c.checkOk(t, l, nil, x, true)
	got, ok := c.put(l, nil, x)
	checkPut(t, "a known "+c.name, got, ok, want)
	got, ok = c.put(l, []byte{128, 0}, x)
	checkPut(t, "a known "+c.name+" behind two bytes", got, ok, slices.Concat([]byte{128, 0}, want))
	c.checkAt(t, l, want, 0, x, len(want), impl.ErOk)
	c.checkAt(t, l, slices.Concat([]byte{128, 0}, want, []byte{128}), 2, x, 2+len(want), impl.ErOk)
}

// checkValid is for a value that the chapter calls valid, and its encoding.
func (c codec[T]) checkValid(t *testing.T, l impl.Limits, x T) {
	t.Helper()
	c.checkOk(t, l, nil, x, true)
	c.checkOk(t, l, []byte{0, 255, 128}, x, true)
	c.checkAt(t, l, c.raw(x), 0, x, len(c.raw(x)), impl.ErOk)
}

// checkInvalid is for a value that the chapter calls not valid.
func (c codec[T]) checkInvalid(t *testing.T, l impl.Limits, x T) {
	t.Helper()
	c.checkOk(t, l, nil, x, false)
	c.checkOk(t, l, []byte{5}, x, false)
}

// checkLimits gives x, which is valid at limits with N validators, each value of
// each limit. Only N may matter, but the other limits must be valid too.
func (c codec[T]) checkLimits(t *testing.T, base impl.Limits, x T) {
	t.Helper()
	c.checkValid(t, base, x)
	for _, f := range limitFields {
		for _, n := range f.edges() {
			l := f.with(base, n)
			c.checkOk(t, l, nil, x, c.writtenOk(l, x))
			if f.name != "N" {
				c.checkOk(t, l, nil, x, n >= f.least && n <= f.most)
			}
			c.checkInput(t, l, c.raw(x), 0)
		}
	}
}

// checkWrongLimits asks that limits that are not valid come before all that is
// wrong with the bytes, the offset or the value.
func (c codec[T]) checkWrongLimits(t *testing.T, inputs [][]byte, list ...T) {
	t.Helper()
	for _, l := range wrongLimits() {
		for _, b := range inputs {
			for _, at := range append(extremes, len(b)-1, len(b), len(b)+1) {
				c.checkNoneAt(t, l, b, at, impl.ErValue)
			}
			for _, x := range list {
				c.checkOk(t, l, b, x, false)
			}
		}
	}
}

func (c codec[T]) checkOffsets(t *testing.T, l impl.Limits, inputs ...[]byte) {
	t.Helper()
	for _, b := range append(inputs, nil, []byte{}, []byte{0}) {
		for at := -5; at < len(b)+5; at++ {
			c.checkInput(t, l, b, at)
		}
		for _, at := range []int{math.MinInt, math.MinInt + 1, -256, -2, -1, len(b), len(b) + 1, len(b) + 256, math.MaxInt - 1, math.MaxInt} {
			c.checkNoneAt(t, l, b, at, impl.ErShort)
		}
	}
}

// checkDifferences compares x with itself and with each value that differs in one part.
func (c codec[T]) checkDifferences(t *testing.T, x T) {
	t.Helper()
	c.checkSame(t, x, x, true)
	c.checkSame(t, x, c.clone(x), true)
	for _, other := range c.others(x) {
		c.checkSame(t, x, other, false)
	}
}

// checkEachPair compares every value of a list with every one.
func (c codec[T]) checkEachPair(t *testing.T, list []T) {
	t.Helper()
	for _, a := range list {
		for _, b := range list {
			if got := c.same(a, b); got != c.writtenSame(a, b) {
				t.Errorf("%sSame(%+v, %+v) = %v", c.name, a, b, got)
			}
		}
	}
}

// withPart puts the parts of an encoding together with another one in a place,
// and returns the offset behind that part too.
func withPart(parts [][]byte, place int, part []byte) (whole []byte, end int) {
	ahead := slices.Concat(slices.Concat(parts[:place]...), part)
	return slices.Concat(ahead, slices.Concat(parts[place+1:]...)), len(ahead)
}

// surroundings stand before an encoding and behind it.
var surroundings = [][]byte{nil, {0}, {128}, {255, 0, 129}, filled(40, 9), filled(300, 128)}

// checkRecovered writes x behind each surrounding and reads it in front of each.
func (c codec[T]) checkRecovered(t *testing.T, l impl.Limits, x T) {
	t.Helper()
	for _, ahead := range surroundings {
		b, ok := c.put(l, ahead, x)
		if !ok || !bytes.HasPrefix(b, ahead) {
			t.Errorf("Put%s(%+v, %v, %+v) = %v, %v", c.name, l, ahead, x, b, ok)
		}
		for _, behind := range surroundings {
			c.checkAt(t, l, slices.Concat(b, behind), len(ahead), x, len(b), impl.ErOk)
		}
	}
}

// checkRow writes values one behind the other and reads each where the one before it ends.
func (c codec[T]) checkRow(t *testing.T, l impl.Limits, list []T) {
	t.Helper()
	var b []byte
	for _, x := range list {
		b, _ = c.put(l, b, x)
	}
	at := 0
	for _, x := range list {
		c.checkAt(t, l, b, at, x, at+len(c.raw(x)), impl.ErOk)
		at += len(c.raw(x))
	}
	c.checkNoneAt(t, l, b, at, impl.ErShort)
}

// checkOtherEncodings reports another value whose encoding is that of x, begins
// with it, or is its beginning.
func (c codec[T]) checkOtherEncodings(t *testing.T, l impl.Limits, x T, list []T) {
	t.Helper()
	b, _ := c.put(l, nil, x)
	for _, other := range append(c.others(x), list...) {
		y, ok := c.put(l, nil, other)
		if ok && !c.same(x, other) && (bytes.HasPrefix(b, y) || bytes.HasPrefix(y, b)) {
			t.Errorf("%+v and %+v have the encodings %v and %v", x, other, b, y)
		}
	}
}

// checkCut asks for ErShort: a proper prefix of an encoding could still become one.
func (c codec[T]) checkCut(t *testing.T, l impl.Limits, x T) {
	t.Helper()
	b := c.raw(x)
	for end := range b {
		c.checkNoneAt(t, l, b[:end], 0, impl.ErShort)
		c.checkNoneAt(t, l, append(filled(9, 1), b[:end]...), 9, impl.ErShort)
	}
}

// checkCodeFrom cuts b everywhere: what ends ahead of the place is too short,
// and what contains it has the code, also with more bytes behind.
func (c codec[T]) checkCodeFrom(t *testing.T, l impl.Limits, b []byte, place int, code int) {
	t.Helper()
	for end := range len(b) + 1 {
		want := code
		if end < place {
			want = impl.ErShort
		}
		c.checkNoneAt(t, l, b[:end], 0, want)
		c.checkNoneAt(t, l, append([]byte{128, 0}, b[:end]...), 2, want)
	}
	c.checkNoneAt(t, l, append(bytes.Clone(b), 1, 2, 3), 0, code)
	c.checkNoneAt(t, l, append(bytes.Clone(b[:place]), filled(300, 255)...), 0, code)
}

// A partsCase is an input, and the code of its first error.
type partsCase struct {
	parts [][]byte
	code  int
}

// checkCodes also reads each input with limits that are not valid.
func (c codec[T]) checkCodes(t *testing.T, l impl.Limits, cases []partsCase) {
	t.Helper()
	for i, one := range cases {
		b := slices.Concat(one.parts...)
		if _, _, er := c.get(l, b, 0); er != one.code {
			t.Errorf("case %d: the code is %d instead of %d", i, er, one.code)
		}
		c.checkInput(t, l, b, 0)
		c.checkNoneAt(t, impl.Limits{N: l.N}, b, 0, impl.ErValue)
	}
}

// checkAccepted reports an input that is accepted, but is not what is written of
// the value, or one whose first error is another.
func (c codec[T]) checkAccepted(t *testing.T, l impl.Limits, b []byte, at int) {
	t.Helper()
	c.checkInput(t, l, b, at)
	x, next, er := c.get(l, b, at)
	if er != impl.ErOk {
		return
	}
	only, ok := c.put(l, nil, x)
	if !ok || !c.ok(l, x) || !bytes.Equal(only, b[at:next]) {
		t.Errorf("Get%s(%+v, %v, %d) is %+v, which is encoded as %v, %v", c.name, l, b, at, x, only, ok)
	}
}

// checkChangedBytes gives every byte of an encoding all values; what is accepted
// then is another value.
func (c codec[T]) checkChangedBytes(t *testing.T, l impl.Limits, x T) {
	t.Helper()
	whole := c.raw(x)
	for i := range whole {
		for v := range 256 {
			b := append(bytes.Clone(whole), filled(40, 7)...)
			b[i] = byte(v)
			c.checkAccepted(t, l, b[:len(whole)], 0)
			c.checkAccepted(t, l, b, 0)
			got, _, er := c.get(l, b, 0)
			if er == impl.ErOk && c.same(got, x) != (b[i] == whole[i]) {
				t.Errorf("byte %d of %v replaced by %d: %+v", i, whole, v, got)
			}
		}
	}
}

// checkShiftedBytes leaves out a byte, or adds one somewhere.
func (c codec[T]) checkShiftedBytes(t *testing.T, l impl.Limits, x T, added ...byte) {
	t.Helper()
	whole := c.raw(x)
	for i := range len(whole) + 1 {
		for at := range len(whole) + 1 {
			c.checkAccepted(t, l, append(bytes.Clone(whole[:i]), whole[min(i+1, len(whole)):]...), at)
		}
		for _, v := range added {
			c.checkAccepted(t, l, slices.Concat(whole[:i], []byte{v}, whole[i:]), 0)
			c.checkAccepted(t, l, slices.Concat(whole[:i], []byte{v}, whole[i:], []byte{v}), 1)
		}
	}
}

// checkPutPure asks that the arguments stay as they are and that the result is new memory.
func (c codec[T]) checkPutPure(t *testing.T, list []T) {
	t.Helper()
	for _, x := range list {
		for _, l := range []impl.Limits{limitsFor(4), limitsFor(10), {}} {
			for _, b := range [][]byte{nil, {}, {1}, filled(100, 7)} {
				what := fmt.Sprintf("Put%s(%v, %v, %+v)", c.name, l, b, x)
				h := c.hold(x)
				checkPure(t, what, func(a [][]byte) []byte {
					out, _ := c.put(l, a[0], h.given)
					h.check(t, what)
					return out
				}, b)
				h.check(t, what+", its result overwritten")
			}
		}
	}
}

// checkPutShared is for a value whose parts lie in the given memory, as b does.
func (c codec[T]) checkPutShared(t *testing.T, all []byte, sizes []int, x T) {
	t.Helper()
	before := bytes.Clone(all)
	for _, size := range sizes {
		want := slices.Concat(before[:size], c.raw(c.clone(x)))
		got, ok := c.put(limitsFor(4), all[:size], x)
		checkPut(t, "Put"+c.name+" of shared memory", got, ok, want)
		checkHash(t, "the memory", all, before)
		overwriteBytes(got)
		checkHash(t, "the memory, the result overwritten", all, before)
		got, _ = c.put(limitsFor(4), all[:size], x)
		overwriteBytes(all)
		checkHash(t, "Put"+c.name+", the memory overwritten", got, want)
		copy(all, before)
	}
}

// checkPutTwice appends two values to one slice, where they must not meet in its spare capacity.
func (c codec[T]) checkPutTwice(t *testing.T, first, second T) {
	t.Helper()
	b := make([]byte, 3, 1000)
	x, _ := c.put(limitsFor(4), b, first)
	y, _ := c.put(limitsFor(4), b, second)
	z, _ := c.put(limitsFor(4), x, second)
	checkHash(t, "the first "+c.name, x, slices.Concat(b, c.raw(first)))
	checkHash(t, "the second "+c.name, y, slices.Concat(b, c.raw(second)))
	checkHash(t, "one "+c.name+" behind the other", z, slices.Concat(b, c.raw(first), c.raw(second)))
	overwriteBytes(x)
	checkHash(t, "the second "+c.name+", the first overwritten", y, slices.Concat(b, c.raw(second)))
	checkHash(t, "one "+c.name+" behind the other, the first overwritten", z, slices.Concat(b, c.raw(first), c.raw(second)))
}

func (c codec[T]) checkGetPure(t *testing.T, inputs [][]byte) {
	t.Helper()
	for _, b := range inputs {
		for _, l := range []impl.Limits{limitsFor(4), limitsFor(1), limitsFor(10), {}} {
			for _, at := range []int{-1, 0, 1, len(b) / 2, len(b), len(b) + 1} {
				what := fmt.Sprintf("Get%s(%v, %v, %d)", c.name, l, b, at)
				given := roomy(b)
				first, _, er := c.get(l, given, at)
				want := c.clone(first)
				checkRoomy(t, what, given, b)
				c.ruin(first)
				checkRoomy(t, what+", its result overwritten", given, b)
				second, _, erAgain := c.get(l, given, at)
				overwriteBytes(given)
				if er != erAgain || !c.writtenSame(second, want) {
					t.Errorf("%s: %+v, %d and then %+v, %d", what, want, er, second, erAgain)
				}
				checkElementsApart(t, what, c.parts(second))
			}
		}
	}
}

// checkExtremes reads at offsets of all sizes, and with as many validators.
func (c codec[T]) checkExtremes(t *testing.T, inputs [][]byte) {
	t.Helper()
	for _, n := range extremes {
		for _, l := range append(wrongLimits(), limitsFor(10), limitsFor(n)) {
			for _, b := range inputs {
				c.checkInput(t, l, b, n)
				c.checkInput(t, l, b, len(b)+n)
			}
		}
	}
}

// checkQuestionsPure asks all questions twice; the answers to both are the same.
func (c codec[T]) checkQuestionsPure(t *testing.T, one T, list []T) {
	t.Helper()
	for _, x := range list {
		for _, l := range []impl.Limits{limitsFor(4), {}} {
			what := fmt.Sprintf("the questions about %+v", x)
			h, other := c.hold(x), c.hold(one)
			for range 2 {
				if got := c.ok(l, h.given); got != c.writtenOk(l, x) {
					t.Errorf("%s: %sOk is %v", what, c.name, got)
				}
				c.checkSame(t, h.given, other.given, c.writtenSame(x, one))
				c.checkSame(t, h.given, h.given, true)
				h.check(t, what)
				other.check(t, what)
			}
		}
	}
}

// checkGetNew asks that a call does not keep what it returned: the next one has memory of its own.
func (c codec[T]) checkGetNew(t *testing.T, l impl.Limits, x T) {
	t.Helper()
	b := c.raw(x)
	first, _, _ := c.get(l, b, 0)
	second, _, _ := c.get(l, b, 0)
	c.ruin(first)
	c.checkSame(t, second, x, true)
	c.checkAt(t, l, b, 0, x, len(b), impl.ErOk)
}
