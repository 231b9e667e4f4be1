package tests

import (
	"fmt"
	"slices"
	"strings"
	"sync"
	"testing"
	"unsafe"

	"loop.example/g00790/impl"
)

// Chapter 1 for chapter 11: arguments stay unchanged, results are new memory,
// they depend on the arguments only, and no function panics.

// pieceTexts are strings for all three functions that read one.
func pieceTexts() []string {
	list := []string{
		"", " ", "\n", "  ", "\n\n", "a b", "a\nb", "a\n", " a\n b \n", "limits 4 10 4 4000 5", "limits 4 10 4 4000 6",
		"limits 4 10 4 4000", "limits 4 10 4 4000 5\nfirst 1\nnext 2\n", "\xe2 \x80\n\xff \x00", strings.Repeat("word ", 50), strings.Repeat("line\n", 50),
	}
	return append(list, keptStrings...)
}

// splitters are the functions that return lists of strings.
var splitters = map[string]func(s string) []string{"Cut": impl.Cut, "Lines": impl.Lines}

// overlap reports whether two strings have bytes in one memory.
func overlap(a string, b string) bool {
	if a == "" || b == "" {
		return false
	}
	first := uintptr(unsafe.Pointer(unsafe.StringData(a)))
	second := uintptr(unsafe.Pointer(unsafe.StringData(b)))
	return first < second+uintptr(len(b)) && second < first+uintptr(len(a))
}

// fresh returns s in memory of its own.
func fresh(s string) string { return string([]byte(s)) }

func TestPiecesPure(t *testing.T) {
	for name, f := range splitters {
		for _, text := range pieceTexts() {
			what := fmt.Sprintf("%s(%q)", name, text)
			s := fresh(text)
			first := f(s)
			want := slices.Clone(first)
			if s != text {
				t.Errorf("%s: the argument became %q", what, s)
			}
			all := first[:cap(first)]
			for i := range all {
				all[i] = "overwritten"
			}
			checkStrings(t, what+" again", f(s), want)
		}
	}
}

// A result keeps no memory of its argument: of a long text, a short line may be all that is kept.
func TestPiecesAreNewMemory(t *testing.T) {
	for name, f := range splitters {
		for _, text := range pieceTexts() {
			s := fresh(text)
			list := f(s)
			for i, x := range list {
				if overlap(x, s) {
					t.Errorf("%s(%q): the element %d shares memory with the argument", name, text, i)
				}
				for j := range i {
					if overlap(x, list[j]) {
						t.Errorf("%s(%q): the elements %d and %d share memory", name, text, j, i)
					}
				}
			}
		}
	}
}

// Two results of one argument have no memory in common, the spare capacity among it.
func TestPiecesTwice(t *testing.T) {
	for name, f := range splitters {
		for _, s := range pieceTexts() {
			first, second := f(s), f(s)
			want := slices.Clone(second)
			all := append(first[:cap(first)], "more")
			for i := range all {
				all[i] = "overwritten"
			}
			checkStrings(t, fmt.Sprintf("%s(%q), the first result overwritten", name, s), second, want)
		}
	}
}

func TestLimitsTextIsNewMemory(t *testing.T) {
	for _, l := range someLimits {
		first, second := impl.LimitsText(l), impl.LimitsText(l)
		if first != second || overlap(first, second) {
			t.Errorf("%+v: %q and %q, in one memory or not equal", l, first, second)
		}
	}
}

func TestTextLimitsPure(t *testing.T) {
	for _, text := range pieceTexts() {
		s := fresh(text)
		first, ok := impl.TextLimits(s)
		second, okAgain := impl.TextLimits(s)
		if s != text || first != second || ok != okAgain {
			t.Errorf("TextLimits(%q): %+v, %v and then %+v, %v", text, first, ok, second, okAgain)
		}
	}
}

// Every field takes all ints, whatever the other fields are.
func TestLimitsOfExtremes(t *testing.T) {
	values := append([]int{4, 40, 4000}, extremes...)
	var grow func(l impl.Limits, i int)
	grow = func(l impl.Limits, i int) {
		if i == len(limitFields) {
			if want := writtenLimitsOk(l); impl.LimitsOk(l) != want || (impl.LimitsText(l) != "") != want {
				t.Errorf("%+v: %v, %q", l, impl.LimitsOk(l), impl.LimitsText(l))
			}
			return
		}
		for _, n := range values {
			grow(limitFields[i].with(l, n), i+1)
		}
	}
	grow(impl.Limits{}, 0)
}

// A call in between, also a refused one, leaves nothing behind.
func TestLimitsKeepNoState(t *testing.T) {
	l := someLimits[2]
	for _, text := range pieceTexts() {
		impl.Cut(text)
		impl.Lines(text)
		impl.TextLimits(text)
		impl.LimitsText(impl.Limits{N: len(text)})
		impl.LimitsOk(impl.Limits{})
		checkLimits(t, l)
		checkTextLimits(t, "limits 4 10 4 4000 5", l, true)
		checkCutOf(t, "a  b", []string{"a", "", "b"})
		checkLinesOf(t, "a\n\nb", []string{"a", "", "b"})
	}
}

func TestLimitsAtTheSameTime(t *testing.T) {
	var group sync.WaitGroup
	for _, s := range pieceTexts() {
		group.Go(func() {
			for _, l := range someLimits {
				checkLimits(t, l)
				checkLimitsRecovered(t, l)
			}
			checkText(t, s)
			checkCutOf(t, s, writtenPieces(s, ' '))
			checkLinesOf(t, s, writtenLines(s))
		})
	}
	group.Wait()
}
