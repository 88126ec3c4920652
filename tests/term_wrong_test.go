package tests

import (
	"slices"
	"testing"

	"loop.example/g00339/impl"
)

func TestWrongTerms(t *testing.T) {
	good := termOf("@ v0 v1")
	for _, l := range wrongTerms() {
		kept := slices.Clone(l)
		if impl.GoodTerm(l) {
			t.Errorf("told good: %v", l)
		}
		if f, ok := impl.FreeIn(l); len(f) != 0 || ok {
			t.Errorf("FreeIn(%v): %v %v", l, f, ok)
		}
		if s, ok := impl.TermText(l); s != "" || ok {
			t.Errorf("TermText(%v): %q %v", l, s, ok)
		}
		for _, at := range []int{-1, 0, 1, len(l) - 1, len(l)} {
			if n, ok := impl.SizeAt(l, at); n != 0 || ok {
				t.Errorf("SizeAt(%v, %d): %d %v", l, at, n, ok)
			}
		}
		shifted, okShift := impl.ShiftTerm(l, 0, 0)
		into, okInto := impl.SubstTerm(l, 0, good)
		put, okPut := impl.SubstTerm(good, 0, l)
		nowhere, okNowhere := impl.SubstTerm(good, 5, l)
		both, okBoth := impl.SubstTerm(l, 0, l)
		if len(shifted)+len(into)+len(put)+len(nowhere)+len(both) > 0 || okShift || okInto || okPut || okNowhere || okBoth {
			t.Errorf("%v: %v %v %v %v %v", l, shifted, into, put, nowhere, both)
		}
		if !slices.Equal(l, kept) {
			t.Errorf("changed: %v, was %v", l, kept)
		}
	}
	if !slices.Equal(good, termOf("@ v0 v1")) {
		t.Error(good)
	}
}

func scribbleCells(l []impl.Cell) {
	l = l[:cap(l)]
	for i := range l {
		l[i] = impl.Cell{Kind: 77, N: 77}
	}
}

// TestTermsBehindTheLength holds that what lies behind a list's length is neither read, nor written, nor handed out, and that no answer shares memory with an argument.
func TestTermsBehindTheLength(t *testing.T) {
	back := append(termOf("= v1 @ v0 v2 v0 5"), impl.Cell{Kind: 9, N: -9}, tmVar(3))
	put := append(termOf("+ v0 5 v9"), impl.Cell{Kind: 8, N: 8})
	keptBack, keptPut := slices.Clone(back), slices.Clone(put)
	l, s := back[:5], put[:3]
	if !impl.GoodTerm(l) || !impl.GoodTerm(s) || impl.GoodTerm(back[:4]) || impl.GoodTerm(put[:2]) {
		t.Error("good")
	}
	if f, ok := impl.FreeIn(l); !slices.Equal(f, []int{1}) || !ok {
		t.Error(f, ok)
	}
	if text, ok := impl.TermText(l); text != "= v1 @ v0 v2" || !ok {
		t.Error(text, ok)
	}
	if n, ok := impl.SizeAt(l, 2); n != 3 || !ok {
		t.Error(n, ok)
	}
	if n, ok := impl.SizeAt(l, 5); n != 0 || ok {
		t.Error(n, ok)
	}
	shifted, ok := impl.ShiftTerm(l, 1, 0)
	sameTerm(t, "shifted", shifted, ok, termOf("= v2 @ v0 v3"), true)
	same, ok := impl.ShiftTerm(l, 0, 0)
	sameTerm(t, "by 0", same, ok, l, true)
	into, ok := impl.SubstTerm(l, 1, s)
	sameTerm(t, "put", into, ok, termOf("= + v0 5 @ v0 + v1 5"), true)
	nowhere, ok := impl.SubstTerm(l, 9, s)
	sameTerm(t, "nowhere", nowhere, ok, l, true)
	alone, ok := impl.SubstTerm([]impl.Cell{tmVar(0)}, 0, s)
	sameTerm(t, "alone", alone, ok, s, true)
	own, ok := impl.SubstTerm(l, 1, l)
	sameTerm(t, "itself", own, ok, termOf("= = v1 @ v0 v2 @ v0 = v2 @ v0 v3"), true)
	for _, x := range [][]impl.Cell{shifted, same, into, nowhere, alone, own} {
		scribbleCells(x)
	}
	if !slices.Equal(back, keptBack) || !slices.Equal(put, keptPut) {
		t.Error(back, put)
	}
}

func TestTermsAnswerAlikeEachTime(t *testing.T) {
	const text = "\\ @ v0 = v1 7"
	for range 3 {
		l, ok := impl.ReadTerm(text)
		sameTerm(t, text, l, ok, termOf(text), true)
		f, _ := impl.FreeIn(l)
		if !slices.Equal(f, []int{0}) {
			t.Error(f)
		}
		s, _ := impl.SubstTerm(l, 0, l)
		sameTerm(t, "put", s, true, termOf("\\ @ v0 = \\ @ v0 = v2 7 7"), true)
		scribbleCells(s)
		scribbleCells(l)
		f = f[:cap(f)]
		for i := range f {
			f[i] = 77
		}
	}
}
