package tests

import (
	"slices"
	"testing"

	"loop.example/g00339/impl"
)

func scribbleTypes(l []impl.TyCell) {
	l = l[:cap(l)]
	for i := range l {
		l[i] = impl.TyCell{Kind: 77, N: 77}
	}
}

func TestWrongTypes(t *testing.T) {
	good, term := typeOf("(a0->a1)"), termOf("\\ v0")
	for _, l := range wrongTypes() {
		kept := slices.Clone(l)
		if impl.GoodType(l) {
			t.Errorf("good: %v", l)
		}
		text, okText := impl.TypeText(l)
		tidy, okTidy := impl.TidyType(l)
		if text != "" || len(tidy) > 0 || okText || okTidy {
			t.Errorf("%v: %q %v %v %v", l, text, okText, tidy, okTidy)
		}
		first, okFirst := impl.IsInstance(l, good)
		second, okSecond := impl.IsInstance(good, l)
		self, okSelf := impl.IsInstance(l, l)
		has, okHas := impl.CheckTerm(term, l)
		none, okNone := impl.CheckTerm(termOf("@ 5 5"), l)
		if first || second || self || has || none || okFirst || okSecond || okSelf || okHas || okNone {
			t.Errorf("%v: IsInstance %v %v %v %v %v %v, CheckTerm %v %v %v %v", l, first, okFirst, second, okSecond, self, okSelf, has, okHas, none, okNone)
		}
		if !slices.Equal(l, kept) {
			t.Errorf("changed: %v, was %v", l, kept)
		}
	}
	if !slices.Equal(good, typeOf("(a0->a1)")) || !slices.Equal(term, termOf("\\ v0")) {
		t.Error(good, term)
	}
}

func TestWrongTermsToType(t *testing.T) {
	ty := typeOf("(num->num)")
	for _, l := range append(wrongTerms(), termOf("@ 5 5"), termOf("\\ @ v0 v0"), termOf("v0"), longTerm(41), longTerm(42), lams(39, tmVar(0))) {
		kept := slices.Clone(l)
		got, ok := impl.InferType(l)
		has, okHas := impl.CheckTerm(l, ty)
		wrong, okWrong := impl.CheckTerm(l, nil)
		if len(got) > 0 || ok || has || okHas || wrong || okWrong {
			t.Errorf("%v: %v %v, CheckTerm %v %v %v %v", l, got, ok, has, okHas, wrong, okWrong)
		}
		if !slices.Equal(l, kept) {
			t.Errorf("changed: %v, was %v", l, kept)
		}
	}
	if !slices.Equal(ty, typeOf("(num->num)")) {
		t.Error(ty)
	}
}

// TestTypesBehindTheLength holds that what lies behind a list's length is neither read, nor written, nor handed out, and that no answer shares memory with an argument.
func TestTypesBehindTheLength(t *testing.T) {
	for _, text := range []string{"num", "a3", "(a0->a1)", "(a2->(num->a2))", "((a5->a4)->(a3->num))"} {
		size := len(typeOf(text))
		back := append(typeOf(text), impl.TyCell{Kind: 9, N: -9}, tyFun, tyVar(3))
		kept := slices.Clone(back)
		l := back[:size]
		if !impl.GoodType(l) || impl.GoodType(back[:size+1]) {
			t.Error(text)
		}
		checkTypeText(t, l, text)
		if is, ok := impl.IsInstance(l, back[:size]); !is || !ok {
			t.Error(text, is, ok)
		}
		tidy, ok := impl.TidyType(l)
		sameType(t, text, tidy, ok, tidyTree(treeOfType(l)).cells(), true)
		impl.CheckTerm(termOf("\\ v0"), l)
		scribbleTypes(tidy)
		if !slices.Equal(back, kept) {
			t.Errorf("changed: %v, was %v", back, kept)
		}
	}
	terms := append(termOf("= \\ v0 @ v0 v0"), impl.Cell{Kind: 9, N: -9}, tmVar(3))
	kept := slices.Clone(terms)
	for range 3 {
		got, ok := impl.InferType(terms[:6])
		sameType(t, "InferType", got, ok, typeOf("(a0->a0)"), true)
		is, ok := impl.CheckTerm(terms[:6], got)
		if !is || !ok {
			t.Error(is, ok)
		}
		scribbleTypes(got)
	}
	if !slices.Equal(terms, kept) {
		t.Errorf("changed: %v, was %v", terms, kept)
	}
}

func TestTypesAlikeEachTime(t *testing.T) {
	const text = "\\ \\ \\ @ @ v2 v0 = \\ v0 @ @ v0 v0 @ v2 v1"
	want, is, _ := plainInfer(termOf(text))
	if !is {
		t.Fatal(text)
	}
	for range 200 {
		got, ok := impl.InferType(termOf(text))
		sameType(t, text, got, ok, want, true)
		scribbleTypes(got)
	}
}
