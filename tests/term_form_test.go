package tests

import (
	"slices"
	"testing"

	"loop.example/g00339/impl"
)

func TestTermConstants(t *testing.T) {
	got := []int{impl.MaxTerm, impl.TmVar, impl.TmNum, impl.TmLam, impl.TmApp, impl.TmAdd, impl.TmIf, impl.TmLet}
	if !slices.Equal(got, []int{600, 1, 2, 3, 4, 5, 6, 7}) {
		t.Error(got)
	}
}

func TestGoodTerms(t *testing.T) {
	for _, l := range upToCells(5, 2) {
		if !impl.GoodTerm(l) || impl.GoodTerm(l[:len(l)-1]) || impl.GoodTerm(append(slices.Clone(l), tmVar(0))) {
			t.Errorf("%q", textOf(l))
		}
	}
	for _, c := range []impl.Cell{tmVar(0), tmVar(99), tmNum(0), tmNum(-1000000), tmNum(1000000)} {
		for _, l := range [][]impl.Cell{{c}, lams(599, c), {tmOf(impl.TmIf), c, c, c}, {tmOf(impl.TmLet), c, c}} {
			if !impl.GoodTerm(l) {
				t.Errorf("%q", textOf(l))
			}
		}
	}
	for cells := 1; cells <= 603; cells++ {
		if got := impl.GoodTerm(longTerm(cells)); got != (cells <= 600) {
			t.Error(cells, got)
		}
	}
}

// TestGoodTermsOfAllCells holds GoodTerm against the plain reader at all rows of a few cells, of which most are no term.
func TestGoodTermsOfAllCells(t *testing.T) {
	cells := []impl.Cell{tmVar(99), tmVar(100), tmNum(5), tmOf(impl.TmLam), tmOf(impl.TmApp), tmOf(impl.TmIf), tmOf(impl.TmLet), {Kind: impl.TmAdd, N: 1}, {Kind: 8}}
	rows := [][]impl.Cell{nil}
	for range 5 {
		var longer [][]impl.Cell
		for _, row := range rows {
			if got, want := impl.GoodTerm(row), namedOf(row) != nil; got != want {
				t.Errorf("%v: %v, want %v", row, got, want)
			}
			for _, c := range cells {
				longer = append(longer, append(slices.Clone(row), c))
			}
		}
		rows = longer
	}
}

func checkFree(t *testing.T, text string, want ...int) {
	t.Helper()
	if got, ok := impl.FreeIn(termOf(text)); !slices.Equal(got, want) || !ok {
		t.Errorf("FreeIn(%q): %v %v, want %v", text, got, ok, want)
	}
}

func TestFreeInByHand(t *testing.T) {
	checkFree(t, "v0", 0)
	checkFree(t, "v99", 99)
	checkFree(t, "5")
	checkFree(t, "\\ v0")
	checkFree(t, "\\ v1", 0)
	checkFree(t, "\\ v99", 98)
	checkFree(t, "\\ \\ @ v0 v1")
	checkFree(t, "\\ \\ @ v2 v1", 0)
	checkFree(t, "= v0 v0", 0)
	checkFree(t, "= v0 v1", 0)
	checkFree(t, "= v3 v2", 1, 3)
	checkFree(t, "= \\ v0 @ v0 v0")
	checkFree(t, "= v0 = v1 = v2 v3", 0)
	checkFree(t, "? v9 v0 v5", 0, 5, 9)
	checkFree(t, "+ @ v7 v3 @ v3 v7", 3, 7)
	checkFree(t, "@ v4 \\ @ v5 \\ @ v6 = v6 v7", 4)
	checkFree(t, "\\ @ v0 @ v1 v3", 0, 2)
	if got, ok := impl.FreeIn(lams(99, tmVar(99))); !slices.Equal(got, []int{0}) || !ok {
		t.Error(got, ok)
	}
	if got, ok := impl.FreeIn(lams(100, tmVar(99))); len(got) != 0 || !ok {
		t.Error(got, ok)
	}
	if got, ok := impl.FreeIn(lams(599, tmVar(99))); len(got) != 0 || !ok {
		t.Error(got, ok)
	}
}

func TestFreeInOfEach(t *testing.T) {
	var all []impl.Cell
	var want []int
	for n := 99; n >= 0; n-- {
		all = append(all, tmOf(impl.TmApp), tmVar(n))
		want = append(want, 99-n)
	}
	if got, ok := impl.FreeIn(append(all, tmNum(1))); !slices.Equal(got, want) || !ok {
		t.Error(got, ok)
	}
}

func TestFreeInOfManyTerms(t *testing.T) {
	d := draw(3)
	terms := upToCells(5, 3)
	for range 2000 {
		terms = append(terms, drawTerm(&d, 1+d.below(60), 1+d.below(20)))
	}
	for _, l := range terms {
		got, ok := impl.FreeIn(l)
		if want := plainFree(l); !slices.Equal(got, want) || !ok {
			t.Errorf("FreeIn(%q): %v %v, want %v", textOf(l), got, ok, want)
		}
	}
}

func TestSizes(t *testing.T) {
	d := draw(4)
	terms := append(upToCells(5, 1), longTerm(600), longTerm(599), lams(599, tmNum(0)))
	for range 300 {
		terms = append(terms, drawTerm(&d, 1+d.below(80), 4))
	}
	for _, l := range terms {
		for at := 0; at < len(l); at += 1 + len(l)/100 {
			_, rest := namedAhead(l[at:], nil)
			want := len(l) - at - len(rest)
			if got, ok := impl.SizeAt(l, at); got != want || !ok {
				t.Fatalf("SizeAt(%q, %d): %d %v, want %d", textOf(l), at, got, ok, want)
			}
		}
	}
}

func TestSizesByHand(t *testing.T) {
	l := termOf("? \\ v0 = 1 v0 + v2 @ v3 -7")
	for at, want := range []int{11, 2, 1, 3, 1, 1, 5, 1, 3, 1, 1} {
		if got, ok := impl.SizeAt(l, at); got != want || !ok {
			t.Error(at, got, ok)
		}
	}
	long := longTerm(600)
	for at, want := range map[int]int{0: 600, 1: 599, 2: 1, 598: 1, 599: 1, 597: 3} {
		if got, ok := impl.SizeAt(long, at); got != want || !ok {
			t.Error(at, got, ok)
		}
	}
	for _, at := range []int{-1, 11, 12, 1 << 62, -1 << 63} {
		if got, ok := impl.SizeAt(l, at); got != 0 || ok {
			t.Error(at, got, ok)
		}
	}
}
