package tests

import (
	"fmt"
	"math"
	"regexp"
	"slices"
	"strconv"
	"strings"
	"testing"

	"loop.example/g00790/impl"
)

// P12 for chapter 11: every function returns what the chapter specifies.

// A limitField is a field of Limits with its least and its greatest value.
type limitField struct {
	name        string
	least, most int
	in          func(l *impl.Limits) *int
}

var limitFields = []limitField{
	{"N", 1, 10, func(l *impl.Limits) *int { return &l.N }},
	{"Tx", 0, 40, func(l *impl.Limits) *int { return &l.Tx }},
	{"Txs", 0, 8, func(l *impl.Limits) *int { return &l.Txs }},
	{"Frame", 1, 4000, func(l *impl.Limits) *int { return &l.Frame }},
	{"Heads", 3, 5, func(l *impl.Limits) *int { return &l.Heads }},
}

// edges are the values at which a field begins or ends to be valid, those at
// which another field does, and values far from both.
func (f limitField) edges() []int {
	list := append([]int{f.least - 1, f.least, f.least + 1, f.most - 1, f.most, f.most + 1}, extremes...)
	slices.Sort(list)
	return slices.Compact(list)
}

// with returns l with one field changed.
func (f limitField) with(l impl.Limits, n int) impl.Limits {
	*f.in(&l) = n
	return l
}

func writtenLimitsOk(l impl.Limits) bool {
	for _, f := range limitFields {
		if n := *f.in(&l); n < f.least || n > f.most {
			return false
		}
	}
	return true
}

func writtenLimitsText(l impl.Limits) string {
	if !writtenLimitsOk(l) {
		return ""
	}
	return fmt.Sprintf("limits %d %d %d %d %d", l.N, l.Tx, l.Txs, l.Frame, l.Heads)
}

var limitsForm = regexp.MustCompile(`\Alimits (0|[1-9][0-9]{0,3}) (0|[1-9][0-9]{0,3}) (0|[1-9][0-9]{0,3}) (0|[1-9][0-9]{0,3}) (0|[1-9][0-9]{0,3})\z`)

// writtenTextLimits needs no more than four digits, since no field is above 4000.
func writtenTextLimits(s string) (impl.Limits, bool) {
	parts := limitsForm.FindStringSubmatch(s)
	if parts == nil {
		return impl.Limits{}, false
	}
	var l impl.Limits
	for i, f := range limitFields {
		*f.in(&l), _ = strconv.Atoi(parts[i+1])
	}
	if !writtenLimitsOk(l) {
		return impl.Limits{}, false
	}
	return l, true
}

// someLimits are valid: the least and the greatest ones, and some in between.
var someLimits = []impl.Limits{
	{N: 1, Tx: 0, Txs: 0, Frame: 1, Heads: 3},
	{N: 10, Tx: 40, Txs: 8, Frame: 4000, Heads: 5},
	{N: 4, Tx: 10, Txs: 4, Frame: 4000, Heads: 5},
	{N: 7, Tx: 0, Txs: 8, Frame: 100, Heads: 4},
	{N: 2, Tx: 39, Txs: 1, Frame: 999, Heads: 3},
	{N: 9, Tx: 9, Txs: 0, Frame: 10, Heads: 5},
}

func checkLimits(t *testing.T, l impl.Limits) {
	t.Helper()
	if got, want := impl.LimitsOk(l), writtenLimitsOk(l); got != want {
		t.Errorf("LimitsOk(%+v) = %v", l, got)
	}
	if got, want := impl.LimitsText(l), writtenLimitsText(l); got != want {
		t.Errorf("LimitsText(%+v) = %q instead of %q", l, got, want)
	}
}

func checkTextLimits(t *testing.T, s string, want impl.Limits, wantOk bool) {
	t.Helper()
	if l, ok := impl.TextLimits(s); l != want || ok != wantOk {
		t.Errorf("TextLimits(%q) = %+v, %v instead of %+v, %v", s, l, ok, want, wantOk)
	}
}

func TestLimitsConstants(t *testing.T) {
	if impl.MaxTx != 40 || impl.MaxTxs != 8 || impl.MaxFrame != 4000 || impl.MaxHeads != 5 {
		t.Errorf("the constants are %d, %d, %d and %d", impl.MaxTx, impl.MaxTxs, impl.MaxFrame, impl.MaxHeads)
	}
}

func TestLimitsKnown(t *testing.T) {
	texts := []string{
		"limits 1 0 0 1 3",
		"limits 10 40 8 4000 5",
		"limits 4 10 4 4000 5",
		"limits 7 0 8 100 4",
		"limits 2 39 1 999 3",
		"limits 9 9 0 10 5",
	}
	for i, l := range someLimits {
		if !impl.LimitsOk(l) || impl.LimitsText(l) != texts[i] {
			t.Errorf("%+v: %v, %q", l, impl.LimitsOk(l), impl.LimitsText(l))
		}
		checkTextLimits(t, texts[i], l, true)
	}
	for _, l := range []impl.Limits{{}, {N: 4}, {N: 4, Tx: 10, Txs: 4, Frame: 4000}, {Tx: 10, Txs: 4, Frame: 4000, Heads: 5}, {N: -4, Tx: -10, Txs: -4, Frame: -4000, Heads: -5}} {
		if impl.LimitsOk(l) || impl.LimitsText(l) != "" {
			t.Errorf("%+v: %v, %q", l, impl.LimitsOk(l), impl.LimitsText(l))
		}
	}
}

// One field takes all its values while the others stay valid.
func TestLimitsOneField(t *testing.T) {
	for _, base := range someLimits {
		for _, f := range limitFields {
			for n := f.least - 3; n <= f.most+3; n++ {
				checkLimits(t, f.with(base, n))
			}
			for _, n := range append(f.edges(), impl.MaxNum, impl.MaxNum+1, 1<<32+f.least, math.MinInt+f.least) {
				l := f.with(base, n)
				checkLimits(t, l)
				if want := n >= f.least && n <= f.most; impl.LimitsOk(l) != want || (impl.LimitsText(l) != "") != want {
					t.Errorf("%s = %d: %v, %q", f.name, n, impl.LimitsOk(l), impl.LimitsText(l))
				}
			}
		}
	}
}

// Every field takes its edges together with those of the others.
func TestLimitsAllFields(t *testing.T) {
	edges := func(i int) []int {
		f := limitFields[i]
		return []int{math.MinInt, -1, f.least - 1, f.least, f.most, f.most + 1, math.MaxInt}
	}
	for _, n := range edges(0) {
		for _, tx := range edges(1) {
			for _, txs := range edges(2) {
				for _, frame := range edges(3) {
					for _, heads := range edges(4) {
						checkLimits(t, impl.Limits{N: n, Tx: tx, Txs: txs, Frame: frame, Heads: heads})
					}
				}
			}
		}
	}
}

func TestTextLimitsRefused(t *testing.T) {
	forms := []string{
		"", " ", "     ", "limits", "limits ", "limits     ", "limits 4", "limits 4 10 4 4000", "limits 4 10 4 4000 ",
		"4 10 4 4000 5", " 4 10 4 4000 5", "limits 4 10 4 4000 5 5", "limits 4 10 4 4000 5 0", "limits limits 4 10 4 4000 5",
		"limits 4 10 4 4000 5 ", " limits 4 10 4 4000 5", "limits  4 10 4 4000 5", "limits 4  10 4 4000 5", "limits 4 10 4 4000  5",
		"limits  10 4 4000 5", "limits 4 10  4000 5", "limits 4 10 4 4000 5\n", "\nlimits 4 10 4 4000 5", "limits\n4 10 4 4000 5",
		"limits 4 10 4\t4000 5", "limits\t4\t10\t4\t4000\t5", "limits 4 10 4 4000\n5", "limits 4 10 4 4000 5\r\n", "limits\v4 10 4 4000 5",
		"limits\u00a04 10 4 4000 5", "limits 4\u200310 4 4000 5", "limits 4 10 4 4000 5\x00", "limits\x004 10 4 4000 5", "\ufefflimits 4 10 4 4000 5",
		"limit 4 10 4 4000 5", "limitss 4 10 4 4000 5", "Limits 4 10 4 4000 5", "LIMITS 4 10 4 4000 5", "limitS 4 10 4 4000 5",
		"table 4 10 4 4000 5", "0 4 10 4 4000 5", "limits,4,10,4,4000,5", "limits4 10 4 4000 5", "\"limits\" 4 10 4 4000 5",
		"limits 4 10 4 4000 5 limits 4 10 4 4000 5", "limits 4 10 4 4000 5\nlimits 4 10 4 4000 5", "limits 4 4000 5 10 4", "limits 5 4000 4 10 4",
	}
	for _, s := range forms {
		checkTextLimits(t, s, impl.Limits{}, false)
	}
	words := []string{
		"", "-", "+", "-0", "+0", "00", "01", "04", "004", "+4", "-4", "-1", "4.", "4.0", ".4", "4e0", "1e1", "0x4", "0b1", "0o4", "4_0", "1,0",
		"a", "A", "four", "4a", "a4", "\x80", "4\x80", "\xff4", "4\x00", "\x004", "\u0664", "\uff14", "4\u0301", "4\u00a0", "\u00b2", "4\n", "\t4",
		"4001", "10000", "40000", "1152921504606846975", "1152921504606846976", "9223372036854775807", "9223372036854775808",
		"18446744073709551620", "36893488147419103236", "-9223372036854775808", strings.Repeat("9", 400), "4" + strings.Repeat("0", 400), strings.Repeat("0", 400) + "4",
	}
	for i, f := range limitFields {
		for _, word := range append(words, strconv.Itoa(f.least-1), strconv.Itoa(f.most+1), "0"+strconv.Itoa(f.most)) {
			s := strings.Split("limits 4 10 4 4000 5", " ")
			s[i+1] = word
			checkTextLimits(t, strings.Join(s, " "), impl.Limits{}, false)
		}
	}
}

// Short strings of digits and other bytes stand for each word, before and behind it.
func TestTextLimitsOfInputs(t *testing.T) {
	words := []string{"limits", "4", "10", "4", "4000", "5"}
	eachInput([]byte("0149 -s\n\x80"), 3, func(b []byte) {
		for i, word := range words {
			for _, part := range []string{string(b), string(b) + word, word + string(b), " " + string(b) + " " + word} {
				changed := slices.Clone(words)
				changed[i] = part
				s := strings.Join(changed, " ")
				want, ok := writtenTextLimits(s)
				checkTextLimits(t, s, want, ok)
			}
		}
	})
}

func writtenPieces(s string, separator byte) []string {
	list := []string{""}
	for i := range len(s) {
		if s[i] == separator {
			list = append(list, "")
		} else {
			list[len(list)-1] += s[i : i+1]
		}
	}
	return list
}

func writtenLines(s string) []string {
	list := writtenPieces(s, '\n')
	if strings.HasSuffix(s, "\n") || s == "" {
		return list[:len(list)-1]
	}
	return list
}

func checkStrings(t *testing.T, what string, got []string, want []string) {
	t.Helper()
	if !slices.Equal(got, want) {
		t.Errorf("%s = %q instead of %q", what, got, want)
	}
}

func checkCutOf(t *testing.T, s string, want []string) {
	t.Helper()
	checkStrings(t, fmt.Sprintf("Cut(%q)", s), impl.Cut(s), want)
}

func checkLinesOf(t *testing.T, s string, want []string) {
	t.Helper()
	checkStrings(t, fmt.Sprintf("Lines(%q)", s), impl.Lines(s), want)
}

// keptStrings contain no space and no newline, although some have one in a code
// of theirs, look like one or are white space of another kind.
var keptStrings = []string{
	"a", "word", "\x00", "\t", "\v", "\f", "\r", "\x1f", "\x21", "\x7f", "\x80", "\x8a", "\x8d", "\xa0", "\xaa", "\xff", "\xfe\xff",
	"\u0085", "\u00a0", "\u1680", "\u2000", "\u2003", "\u2009", "\u2028", "\u2029", "\u202f", "\u3000", "\u200b", "\ufeff", "\ufffd",
	"\u0120", "\u010a", "\u2020", "\u0a0a", "\u2420", "\u2424", "\u00e9", "e\u0301", "\u65e5\u672c", "\U0001f600", "\U0010ffff",
	"\xc0\xa0", "\xc0\x8a", "\xe0\x80\xa0", "\xe0\x80\x8a", "\xf0\x80\x80\xa0", "\xc2", "\xe2\x80", "\xf0\x9f\x98", "\xed\xa0\x80", "\xf4\x90\x80\x80", "\xf8\x88\x80\x80\x80",
}

func TestCutKnown(t *testing.T) {
	cases := []struct {
		s    string
		want []string
	}{
		{"", []string{""}},
		{"a", []string{"a"}},
		{" ", []string{"", ""}},
		{"  ", []string{"", "", ""}},
		{"     ", []string{"", "", "", "", "", ""}},
		{"a b", []string{"a", "b"}},
		{"a  b", []string{"a", "", "b"}},
		{" a", []string{"", "a"}},
		{"a ", []string{"a", ""}},
		{" a b ", []string{"", "a", "b", ""}},
		{"  a   b  ", []string{"", "", "a", "", "", "b", "", ""}},
		{"limits 4 10 4 4000 5", []string{"limits", "4", "10", "4", "4000", "5"}},
		{"a\nb c", []string{"a\nb", "c"}},
		{"\n \n", []string{"\n", "\n"}},
		{"a\tb\rc d", []string{"a\tb\rc", "d"}},
		{"\u65e5 \u672c", []string{"\u65e5", "\u672c"}},
		{"\xe2 \x80 \xff", []string{"\xe2", "\x80", "\xff"}},
		{"\x00 \x00", []string{"\x00", "\x00"}},
	}
	for _, c := range cases {
		checkCutOf(t, c.s, c.want)
	}
}

func TestLinesKnown(t *testing.T) {
	cases := []struct {
		s    string
		want []string
	}{
		{"", nil},
		{"\n", []string{""}},
		{"\n\n", []string{"", ""}},
		{"\n\n\n\n", []string{"", "", "", ""}},
		{"a", []string{"a"}},
		{"a\n", []string{"a"}},
		{"a\nb", []string{"a", "b"}},
		{"a\nb\n", []string{"a", "b"}},
		{"\na", []string{"", "a"}},
		{"\n\na\n", []string{"", "", "a"}},
		{"a\n\nb", []string{"a", "", "b"}},
		{"a\n\n\nb\n", []string{"a", "", "", "b"}},
		{"a\n\n", []string{"a", ""}},
		{"a\n\n\n", []string{"a", "", ""}},
		{" ", []string{" "}},
		{"\n ", []string{"", " "}},
		{" \n \n", []string{" ", " "}},
		{"a b\nc d\n", []string{"a b", "c d"}},
		{"a\r\nb\r\n", []string{"a\r", "b\r"}},
		{"a\rb", []string{"a\rb"}},
		{"\r\n", []string{"\r"}},
		{"\n\r", []string{"", "\r"}},
		{"\n\x00", []string{"", "\x00"}},
		{"\u65e5\n\u672c", []string{"\u65e5", "\u672c"}},
		{"\xe2\n\x80\n\xff", []string{"\xe2", "\x80", "\xff"}},
	}
	for _, c := range cases {
		checkLinesOf(t, c.s, c.want)
	}
}

func TestPiecesOfInputs(t *testing.T) {
	eachInput([]byte(" \na\x00\x80\xa0\xc2\xe2\xff"), 5, func(b []byte) {
		s := string(b)
		checkCutOf(t, s, writtenPieces(s, ' '))
		checkLinesOf(t, s, writtenLines(s))
	})
}

// Whatever stands beside a space or a newline, nothing else splits, and nothing is lost.
func TestPiecesKeepOtherBytes(t *testing.T) {
	for _, x := range keptStrings {
		for _, y := range keptStrings {
			checkCutOf(t, x+y, []string{x + y})
			checkLinesOf(t, x+y, []string{x + y})
			checkCutOf(t, x+" "+y, []string{x, y})
			checkLinesOf(t, x+" "+y, []string{x + " " + y})
			checkCutOf(t, x+"\n"+y, []string{x + "\n" + y})
			checkLinesOf(t, x+"\n"+y, []string{x, y})
			checkCutOf(t, " "+x+"  "+y+" ", []string{"", x, "", y, ""})
			checkLinesOf(t, "\n"+x+"\n\n"+y+"\n", []string{"", x, "", y})
		}
	}
}

func TestPiecesAtOneByteOnly(t *testing.T) {
	for a := range 256 {
		for b := range 256 {
			s := string([]byte{byte(a), byte(b), 'c', byte(a)})
			checkCutOf(t, s, writtenPieces(s, ' '))
			checkLinesOf(t, s, writtenLines(s))
		}
	}
}

func TestPiecesAtOneCharacterOnly(t *testing.T) {
	for r := range rune(0x110000) {
		s := string(r) + "b" + string(r)
		words, lines := impl.Cut(s), impl.Lines(s)
		if r != ' ' && (len(words) != 1 || words[0] != s) {
			t.Errorf("Cut(%q) = %q", s, words)
		}
		if r != '\n' && (len(lines) != 1 || lines[0] != s) {
			t.Errorf("Lines(%q) = %q", s, lines)
		}
	}
}

func TestPiecesOfLongStrings(t *testing.T) {
	const n = 100000
	for _, x := range []string{"", "a", "word", "\u65e5", "\xe2\x80"} {
		for separator, f := range map[string]func(s string) []string{" ": impl.Cut, "\n": impl.Lines} {
			for _, end := range []string{"", "b", separator + "b"} {
				s := strings.Repeat(x+separator, n) + end
				want := strings.Split(s, separator)
				if separator == "\n" && end == "" {
					want = want[:n]
				}
				if got := f(s); !slices.Equal(got, want) {
					t.Errorf("%d times %q: %d elements instead of %d, or other ones", n, x+separator, len(got), len(want))
				}
			}
		}
	}
	long := strings.Repeat("a\xff", n)
	checkCutOf(t, long, []string{long})
	checkLinesOf(t, long, []string{long})
}
