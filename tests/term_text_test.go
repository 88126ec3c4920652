package tests

import (
	"slices"
	"strings"
	"testing"

	"loop.example/g00339/impl"
)

// checkTermText holds that a term has its text, and comes back from it.
func checkTermText(t *testing.T, l []impl.Cell) {
	t.Helper()
	want := textOf(l)
	if s, ok := impl.TermText(l); s != want || !ok {
		t.Errorf("TermText: %q %v, want %q", s, ok, want)
	}
	back, ok := impl.ReadTerm(want)
	sameTerm(t, want, back, ok, l, true)
}

func TestTextsOfTerms(t *testing.T) {
	for _, l := range upToCells(5, 2) {
		checkTermText(t, l)
	}
	for n := range 100 {
		checkTermText(t, []impl.Cell{tmVar(n)})
	}
	for _, n := range []int{0, 1, -1, 9, 10, -10, 99999, 100000, 999999, -999999, 1000000, -1000000} {
		checkTermText(t, []impl.Cell{tmNum(n)})
	}
	d := draw(10)
	for range 3000 {
		checkTermText(t, drawTerm(&d, 1+d.below(150), 100))
	}
	if s, ok := impl.TermText([]impl.Cell{tmOf(impl.TmLet), tmOf(impl.TmLam), tmVar(0), tmOf(impl.TmIf), tmVar(12), tmOf(impl.TmAdd), tmNum(-3), tmNum(0), tmOf(impl.TmApp), tmVar(0), tmNum(1000000)}); s != "= \\ v0 ? v12 + -3 0 @ v0 1000000" || !ok {
		t.Error(s, ok)
	}
}

// termOfBytes tells a term whose text has so many bytes: TmAdd of as many long numbers as go in, then TmLam, the last number as long as it must be.
func termOfBytes(bytes int) []impl.Cell {
	var out []impl.Cell
	for ; bytes > 30; bytes -= 11 {
		out = append(out, tmOf(impl.TmAdd), tmNum(-1000000))
	}
	for ; bytes > 2; bytes -= 2 {
		out = append(out, tmOf(impl.TmLam))
	}
	return append(out, tmNum([]int{0, 5, -5}[bytes]))
}

func TestTextLengths(t *testing.T) {
	for bytes := 1; bytes <= 2000; bytes++ {
		l := termOfBytes(bytes)
		if got := len(textOf(l)); got != bytes {
			t.Fatal(bytes, got)
		}
		checkTermText(t, l)
	}
	for bytes := 2001; bytes < 2040; bytes++ {
		l := termOfBytes(bytes)
		if s, ok := impl.TermText(l); s != "" || ok {
			t.Error(bytes, len(s), ok)
		}
		back, ok := impl.ReadTerm(textOf(l))
		sameTerm(t, "too long", back, ok, nil, false)
	}
	checkTermText(t, longTerm(600))
	checkTermText(t, lams(599, tmVar(0)))
	long := slices.Concat(slices.Repeat([]impl.Cell{tmOf(impl.TmAdd), tmNum(-1000000)}, 299), []impl.Cell{tmNum(1)})
	if s, ok := impl.TermText(long); s != "" || ok {
		t.Error(len(s), ok)
	}
	for _, s := range []string{textOf(longTerm(601)), textOf(longTerm(602)), strings.Repeat("\\ ", 600) + "v0", strings.Repeat(" ", 2000), strings.Repeat("1", 2000), strings.Repeat("v", 2001), strings.Repeat("5 ", 100000)} {
		back, ok := impl.ReadTerm(s)
		sameTerm(t, "too many", back, ok, nil, false)
	}
}

func TestWrongTexts(t *testing.T) {
	wrong := []string{
		"", " ", "  ", "v", "v ", " v0", "v0 ", " 5", "5 ", "  5", "5\n", "\n5", "\t5", "5\x00", "@  v0 v1", "@ v0  v1", "@\tv0 v1", "@\nv0 v1", "@ v0 v1 ", " @ v0 v1", "@v0 v1", "\\v0", "@ v0v1",
		"v00", "v01", "v007", "v-1", "v-0", "v+1", "v100", "v1000", "v99999999999999999999", "V0", "vv0", "v 0", "v0x", "v0.", "x", "w0", "v0_1",
		"00", "01", "007", "-0", "-00", "-01", "+5", "+0", "- 5", "--5", "-", "5-", "1000001", "-1000001", "0x10", "1_0", "1e3", "1.0", "99999999999999999999", "-99999999999999999999", "９", "٣", "v９",
		"\\", "@", "+", "?", "=", "@ v0", "+ 1", "= 1", "? 1 2", "\\ \\", "@ @ v0 v1", "v0 v1", "5 6", "\\ v0 v0", "@ v0 v1 v2", "+ 1 2 3", "= 1 2 3", "? 1 2 3 4",
		"\\\\ v0", "\\@ v0 v1", "@+ 1 2", "+?", "?=", "\\@+?=", "/ v0", "* 1 2", "- 1 2", "@ v0 -", "@ v0 +", "== 1 2", "λ v0",
	}
	for _, s := range wrong {
		back, ok := impl.ReadTerm(s)
		sameTerm(t, s, back, ok, nil, false)
	}
}

// TestAllShortTexts holds that a text is read just if it is the text of what is read, and that no text of a term is left out.
func TestAllShortTexts(t *testing.T) {
	texts := map[string]bool{}
	for _, l := range upToCells(3, 10) {
		texts[textOf(l)] = true
	}
	for n := -999; n <= 9999; n++ {
		texts[textOf([]impl.Cell{tmNum(n)})] = true
	}
	for n := range 100 {
		texts[textOf([]impl.Cell{tmVar(n)})] = true
	}
	for n := range 100 {
		texts[textOf(lams(1, tmNum(n)))] = true
	}
	for n := range 9 {
		texts[textOf(lams(1, tmNum(-1-n)))] = true
	}
	const bytes = "\\@+?=v019- 2345678"
	rows := []string{""}
	for range 5 {
		var longer []string
		for _, s := range rows {
			l, ok := impl.ReadTerm(s)
			if back, _ := impl.TermText(l); ok != texts[s] || back != s && ok || !ok && l != nil {
				t.Errorf("%q: %q %v", s, textOf(l), ok)
			}
			for i := range len(bytes) {
				longer = append(longer, s+bytes[i:i+1])
			}
		}
		rows = longer
	}
}
