package tests

import (
	"fmt"
	"slices"
	"testing"

	"loop.example/g00339/impl"
)

func substAsPlain(t *testing.T, l []impl.Cell, k int, s []impl.Cell) {
	t.Helper()
	got, ok := impl.SubstTerm(l, k, s)
	want, is := plainSubst(l, k, s)
	sameTerm(t, fmt.Sprintf("SubstTerm(%q, %d, %q)", textOf(l), k, textOf(s)), got, ok, want, is)
}

func TestSubstOfManyTerms(t *testing.T) {
	puts := upToCells(3, 3)
	for _, l := range upToCells(4, 3) {
		for k := range 4 {
			for _, s := range puts[:40] {
				substAsPlain(t, l, k, s)
			}
		}
	}
	for _, l := range upToCells(3, 3) {
		for _, s := range puts {
			substAsPlain(t, l, 1, s)
		}
	}
	d := draw(8)
	for range 5000 {
		l := drawTerm(&d, 1+d.below(40), 1+d.below(100))
		s := drawTerm(&d, 1+d.below(30), 1+d.below(100))
		substAsPlain(t, l, d.below(8), s)
		if free := plainFree(l); len(free) > 0 {
			substAsPlain(t, l, free[d.below(len(free))], s)
		}
	}
}

func checkSubst(t *testing.T, text string, k int, put string, want string) {
	t.Helper()
	got, ok := impl.SubstTerm(termOf(text), k, termOf(put))
	sameTerm(t, fmt.Sprintf("SubstTerm(%q, %d, %q)", text, k, put), got, ok, termOf(want), want != "")
}

func TestSubstByHand(t *testing.T) {
	checkSubst(t, "\\ @ v1 v2", 0, "+ v0 5", "\\ @ + v1 5 v1")
	checkSubst(t, "v3", 3, "\\ v0", "\\ v0")
	checkSubst(t, "v4", 3, "\\ v0", "v3")
	checkSubst(t, "v2", 3, "\\ v0", "v2")
	checkSubst(t, "\\ \\ @ v4 @ v5 v6", 3, "v0", "\\ \\ @ v4 @ v2 v5")
	checkSubst(t, "\\ @ v0 v1", 0, "\\ @ v0 v1", "\\ @ v0 \\ @ v0 v2")
	checkSubst(t, "= v0 v0", 0, "v8", "= v8 v0")
	checkSubst(t, "= v0 v1", 0, "v8", "= v8 v9")
	checkSubst(t, "= v1 v2", 0, "v8", "= v0 v1")
	checkSubst(t, "= = v0 v1 = v1 v2", 0, "v8", "= = v8 v9 = v9 v10")
	checkSubst(t, "? v0 v1 \\ v1", 0, "v0", "? v0 v0 \\ v1")
	checkSubst(t, "+ v0 v0", 0, "-1000000", "+ -1000000 -1000000")
	checkSubst(t, "5", 0, "v0", "5")
	checkSubst(t, "\\ v0", 0, "v0", "\\ v0")
	checkSubst(t, "\\ v1", 0, "= v0 v0", "\\ = v1 v0")
	checkSubst(t, "\\ \\ \\ v3", 0, "= v0 @ v0 v1", "\\ \\ \\ = v3 @ v0 v4")
}

func TestSubstAtItsBounds(t *testing.T) {
	checkSubst(t, "v99", 99, "v99", "v99")
	checkSubst(t, "v99", 98, "v0", "v98")
	checkSubst(t, "v98", 99, "v0", "v98")
	checkSubst(t, "\\ v99", 98, "v98", "\\ v99")
	checkSubst(t, "\\ v99", 98, "v99", "")
	checkSubst(t, "\\ v99", 99, "v99", "\\ v99")
	checkSubst(t, "\\ v98", 98, "v99", "\\ v98")
	checkSubst(t, "= v0 v1", 0, "v98", "= v98 v99")
	checkSubst(t, "= v0 v1", 0, "v99", "")
	checkSubst(t, "= v0 v0", 0, "v99", "= v99 v0")
	checkSubst(t, "5", 100, "6", "")
	checkSubst(t, "5", -1, "6", "")
	const most, least = 1<<63 - 1, -1 << 63
	checkSubst(t, "\\ v0", most, "6", "")
	checkSubst(t, "\\ v0", least, "6", "")
}

// TestSubstUnderManyBindings holds that what is put under more bindings than ShiftTerm's 50 is shifted by all of them.
func TestSubstUnderManyBindings(t *testing.T) {
	for _, deep := range []int{49, 50, 51, 98, 99} {
		got, ok := impl.SubstTerm(lams(deep, tmVar(deep)), 0, termOf("\\ v0"))
		sameTerm(t, fmt.Sprint("closed, under ", deep), got, ok, lams(deep+1, tmVar(0)), true)
		got, ok = impl.SubstTerm(lams(deep, tmVar(deep)), 0, termOf("v0"))
		sameTerm(t, fmt.Sprint("v0, under ", deep), got, ok, lams(deep, tmVar(deep)), true)
		got, ok = impl.SubstTerm(lams(deep, tmVar(deep)), 0, []impl.Cell{tmVar(99 - deep)})
		sameTerm(t, fmt.Sprint("the farthest, under ", deep), got, ok, lams(deep, tmVar(99)), true)
		got, ok = impl.SubstTerm(lams(deep, tmVar(deep)), 0, []impl.Cell{tmVar(100 - deep)})
		sameTerm(t, fmt.Sprint("one too far, under ", deep), got, ok, nil, false)
	}
	l := lams(599, tmVar(99))
	got, ok := impl.SubstTerm(l, 0, termOf("v99"))
	sameTerm(t, "all bound", got, ok, l, true)
}

func TestSubstRoom(t *testing.T) {
	for size := 590; size <= 600; size++ {
		for ahead := range 8 {
			got, ok := impl.SubstTerm(lams(ahead, tmVar(ahead)), 0, longTerm(size))
			var want []impl.Cell
			if ahead+size <= 600 {
				want = lams(ahead, longTerm(size)...)
			}
			sameTerm(t, fmt.Sprint(size, " under ", ahead), got, ok, want, want != nil)
		}
	}
	for _, size := range []int{298, 299, 300, 301} {
		got, ok := impl.SubstTerm(termOf("+ v0 v0"), 0, longTerm(size))
		var want []impl.Cell
		if size <= 299 {
			want = slices.Concat(termOf("+"), longTerm(size), longTerm(size))
		}
		sameTerm(t, fmt.Sprint("twice ", size), got, ok, want, want != nil)
	}
	many := slices.Concat(slices.Repeat(termOf("@ v0"), 299), termOf("v0"))
	got, ok := impl.SubstTerm(many, 0, longTerm(600))
	sameTerm(t, "300 times 600", got, ok, nil, false)
	got, ok = impl.SubstTerm(many, 1, longTerm(600))
	sameTerm(t, "no such one", got, ok, many, true)
	got, ok = impl.SubstTerm(many, 0, termOf("v99"))
	sameTerm(t, "300 times v99", got, ok, slices.Concat(slices.Repeat(termOf("@ v99"), 299), termOf("v99")), true)
	got, ok = impl.SubstTerm(many, 0, termOf("\\ v99"))
	sameTerm(t, "300 times 2", got, ok, nil, false)
}

// lemma holds that s for i, then u for j, is u for j+1, then s, with u for j in it, for i: where all is good; it tells whether it was.
func lemma(t *testing.T, l []impl.Cell, i int, s []impl.Cell, j int, u []impl.Cell) bool {
	t.Helper()
	first, okFirst := impl.SubstTerm(l, i, s)
	left, okLeft := impl.SubstTerm(first, j, u)
	moved, okMoved := impl.ShiftTerm(u, 1, i)
	inner, okInner := impl.SubstTerm(s, j, u)
	second, okSecond := impl.SubstTerm(l, j+1, moved)
	right, okRight := impl.SubstTerm(second, i, inner)
	if !okFirst || !okLeft || !okMoved || !okInner || !okSecond || !okRight {
		return false
	}
	if !slices.Equal(left, right) {
		t.Errorf("%q, %q for %d, %q for %d: %q, %q", textOf(l), textOf(s), i, textOf(u), j, textOf(left), textOf(right))
	}
	return true
}

func TestPutInEitherOrder(t *testing.T) {
	puts := upToCells(2, 3)
	for _, l := range upToCells(4, 3) {
		for _, s := range puts {
			for _, u := range puts {
				if !lemma(t, l, 0, s, 0, u) || !lemma(t, l, 0, s, 1, u) || !lemma(t, l, 1, s, 1, u) {
					t.Fatalf("not good: %q %q %q", textOf(l), textOf(s), textOf(u))
				}
			}
		}
	}
	d := draw(9)
	good := 0
	for range 20000 {
		i := d.below(5)
		far := []int{4, 10, 100}[d.below(3)]
		if lemma(t, drawTerm(&d, 1+d.below(40), far), i, drawTerm(&d, 1+d.below(12), far), i+d.below(5), drawTerm(&d, 1+d.below(12), far)) {
			good++
		}
	}
	if good < 10000 {
		t.Error("few are good:", good)
	}
}
