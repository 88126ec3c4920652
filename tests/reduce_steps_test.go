package tests

import (
	"fmt"
	"slices"
	"testing"

	"loop.example/g00339/impl"
)

func sameTerms(t *testing.T, what string, got [][]impl.Cell, ok bool, want [][]impl.Cell, is bool) {
	t.Helper()
	if ok == is && slices.EqualFunc(got, want, slices.Equal[[]impl.Cell]) {
		return
	}
	t.Errorf("%s: %v, want %v", what, ok, is)
	for _, l := range got {
		t.Errorf("  told %q", textOf(l))
	}
	for _, l := range want {
		t.Errorf("  want %q", textOf(l))
	}
}

func checkSteps(t *testing.T, text string, want ...string) {
	t.Helper()
	got, ok := impl.StepsOf(termOf(text))
	var terms [][]impl.Cell
	for _, s := range want {
		terms = append(terms, termOf(s))
	}
	sameTerms(t, fmt.Sprintf("StepsOf(%q)", text), got, ok, terms, true)
	normal, ok := impl.IsNormal(termOf(text))
	if normal != (len(want) == 0) || !ok {
		t.Errorf("IsNormal(%q): %v %v", text, normal, ok)
	}
}

func checkNoSteps(t *testing.T, l []impl.Cell) {
	t.Helper()
	got, ok := impl.StepsOf(l)
	sameTerms(t, fmt.Sprintf("StepsOf(%q)", textOf(l)), got, ok, nil, false)
	normal, ok := impl.IsNormal(l)
	if normal || !ok {
		t.Errorf("IsNormal(%q): %v %v", textOf(l), normal, ok)
	}
}

func TestStepsOfManyTerms(t *testing.T) {
	for _, l := range reduceTerms(9000) {
		kept := slices.Clone(l)
		want, is := plainSteps(l)
		got, ok := impl.StepsOf(l)
		sameTerms(t, fmt.Sprintf("StepsOf(%q)", textOf(l)), got, ok, want, is)
		normal, ok := impl.IsNormal(l)
		if normal != (len(namedOf(l).redexes()) == 0) || !ok {
			t.Errorf("IsNormal(%q): %v %v", textOf(l), normal, ok)
		}
		if !slices.Equal(l, kept) {
			t.Fatalf("changed: %q, was %q", textOf(l), textOf(kept))
		}
	}
}

func TestEachKindOfRedex(t *testing.T) {
	checkSteps(t, "@ \\ v0 5", "5")
	checkSteps(t, "@ \\ v0 v3", "v3")
	checkSteps(t, "@ \\ 1 \\ v0", "1")
	checkSteps(t, "= 5 + v0 v1", "+ 5 v0")
	checkSteps(t, "= v4 7", "7")
	checkSteps(t, "+ 2 -3", "-1")
	checkSteps(t, "? 0 v1 v2", "v1")
	checkSteps(t, "? 1 v1 v2", "v2")
	checkSteps(t, "? -1 v1 v2", "v2")
	for _, normal := range []string{"v0", "-7", "\\ v0", "@ v0 \\ v0", "@ 1 2", "@ @ v0 1 2", "+ v0 1", "+ 1 v0", "+ \\ v0 1", "+ 1 \\ v0", "? v0 1 2", "? \\ v0 1 2", "? @ 1 2 3 4", "\\ @ v0 v0"} {
		checkSteps(t, normal)
	}
}

func TestSumsAtTheBound(t *testing.T) {
	checkSteps(t, "+ 999999 1", "1000000")
	checkSteps(t, "+ 1000000 0", "1000000")
	checkSteps(t, "+ 1000000 1")
	checkSteps(t, "+ 1000000 1000000")
	checkSteps(t, "+ -999999 -1", "-1000000")
	checkSteps(t, "+ -1 -1000000")
	checkSteps(t, "+ -1000000 -1000000")
	checkSteps(t, "+ -1000000 1000000", "0")
	checkSteps(t, "\\ + + 1000000 1 + 1 1", "\\ + + 1000000 1 2")
}

func TestStepsFromTheFront(t *testing.T) {
	checkSteps(t, "@ \\ + v0 v0 + 1 2", "+ + 1 2 + 1 2", "@ \\ + v0 v0 3")
	checkSteps(t, "@ \\ + 1 2 + 3 4", "+ 1 2", "@ \\ 3 + 3 4", "@ \\ + 1 2 7")
	checkSteps(t, "= + 1 2 + 3 4", "+ 3 4", "= 3 + 3 4", "= + 1 2 7")
	checkSteps(t, "? 0 + 1 2 + 3 4", "+ 1 2", "? 0 3 + 3 4", "? 0 + 1 2 7")
	checkSteps(t, "? + 0 0 + 1 2 + 3 4", "? 0 + 1 2 + 3 4", "? + 0 0 3 + 3 4", "? + 0 0 + 1 2 7")
	checkSteps(t, "+ + + 1 2 3 4", "+ + 3 3 4")
	checkSteps(t, "\\ = v0 = v1 @ v0 v1", "\\ = v0 @ v0 v1", "\\ = v0 @ v1 v0")
	// Two redexes that make the same term are told twice.
	checkSteps(t, "@ \\ v0 @ \\ v0 v5", "@ \\ v0 v5", "@ \\ v0 v5")
	checkSteps(t, "? 0 ? 0 1 2 2", "? 0 1 2", "? 0 1 2")
	checkSteps(t, "@ \\ @ v0 v0 \\ @ v0 v0", "@ \\ @ v0 v0 \\ @ v0 v0")
}

func TestStepsShift(t *testing.T) {
	checkSteps(t, "@ \\ \\ @ v1 v2 v7", "\\ @ v8 v1")
	checkSteps(t, "@ \\ \\ @ v1 v2 \\ @ v0 v7", "\\ @ \\ @ v0 v8 v1")
	checkSteps(t, "\\ @ \\ \\ @ @ v0 v1 @ v2 v3 @ v0 v1", "\\ \\ @ @ v0 @ v1 v2 @ v1 v2")
	checkSteps(t, "= v7 \\ @ v1 v2", "\\ @ v8 v1")
	checkSteps(t, "= v7 = v0 @ v0 @ v1 v2", "= v7 @ v0 @ v8 v1", "= v7 @ v0 @ v0 v1")
	checkSteps(t, "= v0 v1", "v0")
	checkSteps(t, "@ \\ \\ v1 v98", "\\ v99")
	checkSteps(t, "@ \\ v99 1", "v98")
	for _, text := range []string{"@ \\ \\ v1 v99", "= v99 \\ v1", "= v98 \\ \\ v2", "\\ = v99 = v0 v1", "@ + 1 2 = v99 \\ v1", "@ = v99 \\ v1 + 1 2"} {
		checkNoSteps(t, termOf(text))
	}
}

func TestStepsRoom(t *testing.T) {
	got, ok := impl.StepsOf(append(lams(1), doubled(299)...))
	sameTerms(t, "just room", got, ok, [][]impl.Cell{slices.Concat(termOf("\\ +"), stuckTerm(299), stuckTerm(299))}, true)
	checkNoSteps(t, append(lams(2), doubled(299)...))
	checkNoSteps(t, slices.Concat(termOf("@ + 1 2"), lams(1), doubled(299)))
	checkNoSteps(t, slices.Concat(termOf("+"), lams(1), doubled(299), termOf("+ 1 2")))
	checkNoSteps(t, slices.Concat(termOf("? 0 1"), doubled(299)))
	checkNoSteps(t, doubled(301))
	checkNoSteps(t, doubled(595))
	long := append(lams(1), stuckTerm(597)...)
	got, ok = impl.StepsOf(append(termOf("= 1"), long...))
	sameTerms(t, "of MaxTerm cells", got, ok, [][]impl.Cell{long}, true)
	// Each alone has room, both would not.
	a, b := doubled(149), append(termOf("+"), append(stuckTerm(149), stuckTerm(149)...)...)
	got, ok = impl.StepsOf(slices.Concat(termOf("\\ \\ +"), a, a))
	sameTerms(t, "one of two", got, ok, [][]impl.Cell{slices.Concat(termOf("\\ \\ +"), b, a), slices.Concat(termOf("\\ \\ +"), a, b)}, true)
	many := slices.Repeat(termOf("@ + 1 1"), 149)
	got, ok = impl.StepsOf(append(many, tmNum(1)))
	if len(got) != 149 || !ok {
		t.Error(len(got), ok)
	}
}
