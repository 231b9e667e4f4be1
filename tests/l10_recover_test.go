package tests

import (
	"fmt"
	"strings"
	"testing"

	"loop.example/g00790/impl"
)

// P11 for chapter 11: limits are recovered from their strings, and every other
// string is refused.

// eachLimits calls f for all valid limits with one of these values of Frame.
func eachLimits(frames []int, f func(l impl.Limits)) {
	for n := 1; n <= 10; n++ {
		for tx := range 41 {
			for txs := range 9 {
				for heads := 3; heads <= 5; heads++ {
					for _, frame := range frames {
						f(impl.Limits{N: n, Tx: tx, Txs: txs, Frame: frame, Heads: heads})
					}
				}
			}
		}
	}
}

func checkLimitsRecovered(t *testing.T, l impl.Limits) {
	t.Helper()
	s := impl.LimitsText(l)
	if got, ok := impl.TextLimits(s); s == "" || !ok || got != l {
		t.Errorf("%+v is %q, and from this %+v, %v", l, s, got, ok)
	}
}

func TestLimitsRecovered(t *testing.T) {
	eachLimits([]int{1, 2, 9, 10, 11, 99, 100, 999, 1000, 3999, 4000}, func(l impl.Limits) {
		checkLimitsRecovered(t, l)
	})
}

func TestFramesRecovered(t *testing.T) {
	for _, l := range someLimits {
		for l.Frame = 1; l.Frame <= 4000; l.Frame++ {
			checkLimitsRecovered(t, l)
		}
	}
}

// No two limits have the same string, and none has the empty one.
func TestLimitsTextsDiffer(t *testing.T) {
	seen := map[string]impl.Limits{"": {}}
	eachLimits([]int{1, 4, 10, 40, 111, 400, 4000}, func(l impl.Limits) {
		s := impl.LimitsText(l)
		if other, ok := seen[s]; ok {
			t.Errorf("%+v and %+v have the text %q", l, other, s)
		}
		seen[s] = l
	})
}

// checkText reads a string that may be damaged, and reports whether it is right
// that it is the string of limits, or of none.
func checkText(t *testing.T, s string) {
	t.Helper()
	l, ok := impl.TextLimits(s)
	want, wantOk := writtenTextLimits(s)
	if ok != wantOk || l != want {
		t.Errorf("%q: %+v, %v instead of %+v, %v", s, l, ok, want, wantOk)
	}
	if ok && (!impl.LimitsOk(l) || impl.LimitsText(l) != s) {
		t.Errorf("%q: %+v has the text %q", s, l, impl.LimitsText(l))
	}
}

// damagedTexts are s with one byte removed, added, replaced or exchanged with
// the next one, s cut at every place, and s repeated.
func damagedTexts(s string) []string {
	list := []string{s + s, s + " " + s, s + "\n" + s}
	for at := range len(s) + 1 {
		before, behind := s[:at], s[at:]
		list = append(list, before, behind, before+behind[min(1, len(behind)):])
		if len(behind) > 1 {
			list = append(list, before+behind[1:2]+behind[:1]+behind[2:])
		}
		for c := range 256 {
			one := string([]byte{byte(c)})
			list = append(list, before+one+behind, before+one+behind[min(1, len(behind)):])
		}
		for _, x := range keptStrings {
			list = append(list, before+x+behind)
		}
	}
	return list
}

func TestDamagedLimitsTexts(t *testing.T) {
	for _, l := range someLimits {
		s := writtenLimitsText(l)
		checkText(t, s)
		for _, damaged := range damagedTexts(s) {
			checkText(t, damaged)
		}
	}
}

// Words may be missing, doubled, empty or in another order.
func TestLimitsTextsWithOtherWords(t *testing.T) {
	for _, l := range someLimits {
		words := strings.Split(writtenLimitsText(l), " ")
		for i := range words {
			for j := range words {
				moved := append([]string{}, words...)
				moved[i], moved[j] = moved[j], moved[i]
				checkText(t, strings.Join(moved, " "))
				moved[i] = words[i]
				checkText(t, strings.Join(moved, " "))
				moved[j] = ""
				checkText(t, strings.Join(moved, " "))
				checkText(t, strings.Join(words[min(i, j):max(i, j)], " "))
			}
			checkText(t, strings.Join(append(append([]string{}, words[:i]...), words[i+1:]...), " "))
			checkText(t, strings.Join(append(append([]string{}, words[:i+1]...), words[i:]...), " "))
		}
	}
}

// The string that limits would have if they were valid is refused.
func TestInvalidLimitsNotRecovered(t *testing.T) {
	for _, base := range someLimits {
		for _, f := range limitFields {
			for _, n := range f.edges() {
				l := f.with(base, n)
				s := fmt.Sprintf("limits %d %d %d %d %d", l.N, l.Tx, l.Txs, l.Frame, l.Heads)
				checkText(t, s)
				if _, ok := impl.TextLimits(s); ok != (n >= f.least && n <= f.most) {
					t.Errorf("%q: %v", s, ok)
				}
			}
		}
	}
}
