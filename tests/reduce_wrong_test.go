package tests

import (
	"slices"
	"testing"

	"loop.example/g00339/impl"
)

func TestWrongTermsToReduce(t *testing.T) {
	good := termOf("@ \\ v0 + 1 2")
	for _, l := range wrongTerms() {
		kept := slices.Clone(l)
		steps, okSteps := impl.StepsOf(l)
		developed, okDeveloped := impl.DevelopTerm(l)
		normal, n, okNormal := impl.NormalOf(l, 5)
		called, okCalled := impl.CallStep(l)
		if len(steps)+len(developed)+len(normal)+n+len(called) > 0 || okSteps || okDeveloped || okNormal || okCalled {
			t.Errorf("%v: %v %v %v %d %v", l, steps, developed, normal, n, called)
		}
		none, okNone := impl.IsNormal(l)
		value, okValue := impl.IsValue(l)
		from, okFrom := impl.LeadsTo(l, good)
		to, okTo := impl.LeadsTo(good, l)
		self, okSelf := impl.LeadsTo(l, l)
		if none || value || from || to || self || okNone || okValue || okFrom || okTo || okSelf {
			t.Errorf("%v: IsNormal %v %v, IsValue %v %v, LeadsTo %v %v %v %v %v %v", l, none, okNone, value, okValue, from, okFrom, to, okTo, self, okSelf)
		}
		if !slices.Equal(l, kept) {
			t.Errorf("changed: %v, was %v", l, kept)
		}
	}
	if !slices.Equal(good, termOf("@ \\ v0 + 1 2")) {
		t.Error(good)
	}
}

// TestReducedBehindTheLength holds that what lies behind a list's length is neither read, nor written, nor handed out, and that no answer shares memory with an argument or another answer.
func TestReducedBehindTheLength(t *testing.T) {
	for _, text := range []string{"@ \\ + v0 + 1 1 + 1 2", "= + 1 2 \\ v1", "? 0 + 1 2 3", "? 4 5 + 6 7", "? + 0 0 1 2", "+ + 1 2 + 3 4", "= 1 + v0 v0", "v3", "\\ v0"} {
		size := len(termOf(text))
		back := append(termOf(text), impl.Cell{Kind: 9, N: -9}, tmVar(3), tmOf(impl.TmLet))
		kept := slices.Clone(back)
		l := back[:size]
		want, _ := plainSteps(l)
		steps, ok := impl.StepsOf(l)
		sameTerms(t, text, steps, ok, want, true)
		developed, _ := impl.DevelopTerm(l)
		normal, _, _ := impl.NormalOf(l, 60)
		stay, n, ok := impl.NormalOf(l, 0)
		sameTerm(t, text, stay, ok && n == 0, l, true)
		called, _ := impl.CallStep(l)
		checkLeads(t, l, back[:size], true, true)
		checkLeads(t, l, developed, true, true)
		for i, x := range steps {
			scribbleCells(x)
			for j := i + 1; j < len(steps); j++ {
				sameTerm(t, "beside another one", steps[j], true, want[j], true)
			}
		}
		for _, x := range [][]impl.Cell{developed, normal, stay, called} {
			scribbleCells(x)
		}
		if !slices.Equal(back, kept) {
			t.Errorf("changed: %v, was %v", back, kept)
		}
	}
}

func TestReducedAlikeEachTime(t *testing.T) {
	const text = "@ \\ + v0 v0 + 1 2"
	for range 3 {
		got, ok := impl.DevelopTerm(termOf(text))
		sameTerm(t, text, got, ok, termOf("+ 3 3"), true)
		steps, ok := impl.StepsOf(termOf(text))
		sameTerms(t, text, steps, ok, [][]impl.Cell{termOf("+ + 1 2 + 1 2"), termOf("@ \\ + v0 v0 3")}, true)
		scribbleCells(got)
		for _, x := range steps {
			scribbleCells(x)
		}
	}
}

// TestLongTermsEnd holds that terms of many cells are answered soon, however much their redexes would make.
func TestLongTermsEnd(t *testing.T) {
	deep := append(slices.Repeat(termOf("="), 299), append(termOf("1"), slices.Repeat(termOf("v0"), 299)...)...)
	for _, l := range [][]impl.Cell{
		deep,
		append(lams(200), wayDown(199, tmNum(1))...),
		slices.Concat(slices.Repeat(termOf("? 0"), 199), termOf("1"), slices.Repeat(termOf("1"), 199)),
		slices.Concat(slices.Repeat(termOf("@ \\"), 199), slices.Repeat(termOf("v0"), 200)),
		append(slices.Repeat(termOf("+ 1"), 299), tmNum(1)),
		lams(599, tmVar(99)),
	} {
		impl.StepsOf(l)
		impl.DevelopTerm(l)
		impl.LeadsTo(l, l)
		impl.CallStep(l)
		if _, _, ok := impl.NormalOf(l, 60); !ok {
			t.Errorf("NormalOf(%q)", textOf(l))
		}
	}
}
