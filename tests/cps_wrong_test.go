package tests

import (
	"slices"
	"testing"

	"loop.example/g00339/impl"
)

// checkNotHanded holds the zero answers of all but IsHanded.
func checkNotHanded(t *testing.T, l []impl.Cell) {
	t.Helper()
	kept := slices.Clone(l)
	made, ok := impl.HandOn(l)
	size, okSize := impl.HandedSize(l)
	if len(made) > 0 || ok || size != 0 || okSize {
		t.Errorf("%v: %v %v, %d %v", l, made, ok, size, okSize)
	}
	for _, fuel := range []int{0, 1, 2000, -1, 2001, 1<<63 - 1, -1 << 63} {
		if code, num, ok := impl.RunHanded(l, fuel); code != 0 || num != 0 || ok {
			t.Errorf("RunHanded(%v, %d): %d %d %v", l, fuel, code, num, ok)
		}
	}
	if !slices.Equal(l, kept) {
		t.Errorf("changed: %v, was %v", l, kept)
	}
}

func TestWrongTermsToHand(t *testing.T) {
	for _, l := range wrongTerms() {
		kept := slices.Clone(l)
		checkNotHanded(t, l)
		if is, ok := impl.IsHanded(l); is || ok {
			t.Errorf("IsHanded(%v): %v %v", l, is, ok)
		}
		if !slices.Equal(l, kept) {
			t.Errorf("changed: %v, was %v", l, kept)
		}
	}
	for _, l := range openTerms() {
		checkNotHanded(t, l)
	}
	for _, l := range upToCells(4, 3) {
		if len(plainFree(l)) > 0 {
			checkNotHanded(t, l)
		}
	}
	for _, l := range [][]impl.Cell{longTerm(41), longTerm(600), lams(40, tmVar(39)), lams(40, tmVar(40)), lams(39, tmVar(39)), stuckTerm(41)} {
		checkNotHanded(t, l)
	}
}

// TestHandedBehindTheLength holds that what lies behind a list's length is neither read, nor written, nor handed out, and that no answer shares memory with an argument.
func TestHandedBehindTheLength(t *testing.T) {
	for _, text := range []string{"5", "\\ v0", "+ 1 2", "@ \\ v0 5", "? 0 1 2", "= 1 v0", "= 3 @ \\ ? v0 7 + v0 v1 v0", "\\ @ v0 + 1 v0"} {
		size := len(termOf(text))
		back := append(termOf(text), impl.Cell{Kind: 9, N: -9}, tmVar(3), tmOf(impl.TmLet))
		kept := slices.Clone(back)
		l := back[:size]
		checkHanded(t, l, plainHanded(termOf(text)), true)
		checkIsHanded(t, l, namedOf(termOf(text)).plainIsHanded())
		code, num, _ := plainRunHanded(termOf(text), 2000)
		checkRunHanded(t, l, 2000, code, num)
		made, _ := impl.HandOn(l)
		scribbleCells(made)
		if !slices.Equal(back, kept) {
			t.Errorf("changed: %v, was %v", back, kept)
		}
		if size > 1 {
			checkNotHanded(t, back[:size-1])
		}
		checkNotHanded(t, back[:size+1])
	}
}

func TestHandedAlikeEachTime(t *testing.T) {
	l := termOf("= 5 \\ + v1 v0")
	want := termOf("\\ @ \\ @ v0 5 \\ @ \\ @ v0 \\ \\ @ \\ @ v0 v4 \\ @ \\ @ v0 v3 \\ @ v2 + v1 v0 v1")
	for range 3 {
		got, ok := impl.HandOn(l)
		sameTerm(t, "HandOn", got, ok, want, true)
		scribbleCells(got)
		checkRunHanded(t, l, 100, impl.RunFunction, 0)
		checkRunHanded(t, append(termOf("@"), append(slices.Clone(l), tmNum(6))...), 200, impl.RunNumber, 11)
	}
}
