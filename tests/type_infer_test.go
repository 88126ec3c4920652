package tests

import (
	"fmt"
	"slices"
	"testing"

	"loop.example/g00339/impl"
)

// checkInfer asks for no type where want is empty.
func checkInfer(t *testing.T, text string, want string) {
	t.Helper()
	got, ok := impl.InferType(termOf(text))
	sameType(t, fmt.Sprintf("InferType(%q)", text), got, ok, typeOf(want), want != "")
}

func checkHas(t *testing.T, term, ty string, want bool) {
	t.Helper()
	if is, ok := impl.CheckTerm(termOf(term), typeOf(ty)); is != want || !ok {
		t.Errorf("CheckTerm(%q, %s): %v %v, want %v", term, ty, is, ok, want)
	}
}

func TestInferOfManyTerms(t *testing.T) {
	typed, others := 0, 0
	for _, l := range termsToType() {
		want, is, told := plainInfer(l)
		if !told {
			continue
		}
		got, ok := impl.InferType(l)
		sameType(t, fmt.Sprintf("InferType(%q)", textOf(l)), got, ok, want, is)
		if is {
			typed++
		} else {
			others++
		}
	}
	if typed < 8000 || others < 6000 {
		t.Error("few of a kind:", typed, others)
	}
}

// TestTypedTermsHaveTheirType holds terms that were made for a type against it; and that another type is told to be none.
func TestTypedTermsHaveTheirType(t *testing.T) {
	long := 0
	for _, one := range typedTerms(4000) {
		if is, ok := impl.CheckTerm(one.l, one.is.cells()); !is || !ok {
			t.Errorf("CheckTerm(%q, %s): %v %v", textOf(one.l), one.is.text(), is, ok)
		}
		wrong := funTy(one.is, one.is)
		most, _ := impl.InferType(one.l)
		want := plainInstance(wrong, treeOfType(most))
		if is, ok := impl.CheckTerm(one.l, wrong.cells()); is != want || !ok {
			t.Errorf("CheckTerm(%q, %s): %v %v", textOf(one.l), wrong.text(), is, ok)
		}
		if len(one.l) > 25 {
			long++
		}
	}
	if long < 300 {
		t.Error("few long ones:", long)
	}
}

func TestInferOfEachKind(t *testing.T) {
	checkInfer(t, "5", "num")
	checkInfer(t, "-1000000", "num")
	checkInfer(t, "\\ v0", "(a0->a0)")
	checkInfer(t, "\\ 5", "(a0->num)")
	checkInfer(t, "\\ \\ v1", "(a0->(a1->a0))")
	checkInfer(t, "\\ \\ v0", "(a0->(a1->a1))")
	checkInfer(t, "+ 1 2", "num")
	checkInfer(t, "\\ + v0 1", "(num->num)")
	checkInfer(t, "\\ + 1 v0", "(num->num)")
	checkInfer(t, "\\ \\ + v0 v1", "(num->(num->num))")
	checkInfer(t, "? 0 1 2", "num")
	checkInfer(t, "? 0 \\ v0 \\ 5", "(num->num)")
	checkInfer(t, "\\ ? v0 \\ v0 \\ v0", "(num->(a0->a0))")
	checkInfer(t, "\\ \\ \\ ? v2 v1 v0", "(num->(a0->(a0->a0)))")
	checkInfer(t, "@ \\ v0 5", "num")
	checkInfer(t, "@ \\ v0 \\ v0", "(a0->a0)")
	checkInfer(t, "\\ \\ @ v1 v0", "((a0->a1)->(a0->a1))")
	checkInfer(t, "\\ @ v0 5", "((num->a0)->a0)")
	checkInfer(t, "\\ \\ \\ @ v2 @ v1 v0", "((a0->a1)->((a2->a0)->(a2->a1)))")
	checkInfer(t, "\\ \\ \\ @ @ v2 v0 @ v1 v0", "((a0->(a1->a2))->((a0->a1)->(a0->a2)))")
	checkInfer(t, "= 5 v0", "num")
	checkInfer(t, "= \\ v0 v0", "(a0->a0)")
	checkInfer(t, "= 5 \\ v1", "(a0->num)")
}

func TestTermsWithoutAType(t *testing.T) {
	for _, text := range []string{
		"@ 5 5", "@ 5 \\ v0", "@ + 1 2 3", "@ @ \\ 5 1 2",
		"\\ @ v0 v0", "@ \\ @ v0 v0 \\ v0", "\\ \\ @ @ v0 v1 v0", "\\ @ v0 \\ @ v1 v0", "\\ \\ ? 0 v1 @ v1 v0 ",
		"+ \\ v0 1", "+ 1 \\ v0", "\\ + v0 @ v0 1", "\\ + @ v0 1 v0",
		"? \\ v0 1 2", "? 0 1 \\ v0", "? 0 \\ v0 1", "\\ ? v0 @ v0 1 2", "? 0 \\ v0 \\ + v0 @ v0 1",
		"@ \\ + v0 1 \\ v0", "@ \\ @ v0 1 5", "@ \\ @ @ v0 v0 5 \\ v0",
		"= @ 5 5 1", "= \\ @ v0 v0 1", "= 1 @ v0 v0", "= \\ v0 + v0 1", "\\ = @ 5 v0 1",
		"= 1 @ 5 v0", "\\ \\ = ? 0 v0 v1 @ v2 v1",
	} {
		checkInfer(t, text, "")
		if want, is, told := plainInfer(termOf(text)); is || !told {
			t.Error(text, want)
		}
	}
}

// TestTypesWithinThemselves: such a type is found also where it is made by two that come together, and where it does not show.
func TestTypesWithinThemselves(t *testing.T) {
	for _, text := range []string{
		"\\ \\ ? 0 v1 \\ v1",
		"\\ \\ ? @ v1 v0 @ v0 v1 5",
		"\\ \\ = ? 0 v1 \\ v1 1",
		"@ \\ 5 \\ @ v0 v0",
		"\\ @ \\ 5 @ v0 v0",
		"= \\ \\ ? 0 v1 \\ v1 1",
		"= \\ @ \\ 5 @ v0 v0 1",
		"\\ \\ \\ ? 0 @ \\ 5 ? 0 v2 \\ v2 @ \\ 5 ? 0 v1 \\ v1",
		"\\ \\ @ \\ 5 @ \\ ? 0 v1 \\ v2 ? 0 \\ v1 v2",
		"\\ \\ ? @ v0 v0 ? @ v1 v1 v0 v1 v0",
		"\\ \\ ? @ v0 v0 ? @ v1 @ v1 v1 v0 v1 v0",
		"\\ = v0 ? @ v0 v0 ? @ v1 v1 v0 v1 v0",
		"= \\ @ v0 v0 ? 0 v0 v0",
	} {
		want, is, told := plainInfer(termOf(text))
		if !told {
			t.Fatal(text)
		}
		got, ok := impl.InferType(termOf(text))
		sameType(t, fmt.Sprintf("InferType(%q)", text), got, ok, want, is)
	}
	checkInfer(t, "@ \\ 5 \\ @ v0 v0", "")
	checkInfer(t, "= \\ @ \\ 5 @ v0 v0 1", "")
}

func TestLetAtTwoTypes(t *testing.T) {
	checkInfer(t, "= \\ v0 @ @ v0 v0 5", "num")
	checkInfer(t, "= \\ v0 @ @ v0 v0 + 1 2", "num")
	checkInfer(t, "= \\ v0 @ v0 v0", "(a0->a0)")
	checkInfer(t, "= \\ v0 = @ v0 5 @ v1 \\ v0", "(a0->a0)")
	checkInfer(t, "= \\ v0 = @ v0 5 @ v1 v0", "num")
	checkInfer(t, "= \\ \\ v1 + @ @ v0 1 \\ v0 @ @ @ v0 \\ v0 1 2", "num")
	// Of one TmLet within another, what is bound by the first one has new ones in the second, too.
	checkInfer(t, "= \\ v0 = v0 @ @ v0 v0 @ v1 5", "num")
	checkInfer(t, "= \\ v0 = @ v0 v0 @ @ v0 v0 @ v0 5", "num")
	checkInfer(t, "= = \\ v0 @ v0 v0 @ @ v0 v0 5", "num")
	checkInfer(t, "\\ = \\ v0 @ @ v0 v0 v1", "(a0->a0)")
	checkInfer(t, "= ? 0 \\ v0 \\ v0 @ @ v0 v0 5", "num")
	// Each place has its own ones.
	checkInfer(t, "= \\ \\ v1 \\ \\ @ @ v0 v2 v1", "(a0->(((a1->(a2->a1))->(a0->a3))->a3))")
}

// TestLetWithinLam: what the variables around have stays as it is, be it known only later.
func TestLetWithinLam(t *testing.T) {
	checkInfer(t, "\\ = v0 v0", "(a0->a0)")
	checkInfer(t, "\\ = v0 @ v0 v0", "")
	checkInfer(t, "\\ = v0 @ v0 v1", "")
	checkInfer(t, "\\ = v0 + v0 @ v1 1", "")
	checkInfer(t, "\\ = v0 + v1 @ v0 1", "")
	checkInfer(t, "\\ = v0 + v0 1", "(num->num)")
	checkInfer(t, "\\ = v0 = v0 @ v0 v0", "")
	checkInfer(t, "\\ = \\ v1 @ v0 @ v0 5", "(a0->a0)")
	checkInfer(t, "\\ = \\ v1 + @ v0 1 @ v0 \\ v0", "(num->num)")
	checkInfer(t, "\\ = \\ v1 + @ v0 1 @ @ v0 2 3", "")
	checkInfer(t, "\\ = \\ @ v1 v0 + @ v0 1 @ v0 2", "((num->num)->num)")
	checkInfer(t, "\\ = \\ @ v1 v0 @ v0 v0", "")
	checkInfer(t, "\\ = \\ @ v1 v0 = @ v0 1 @ v1 \\ v0", "")
	checkInfer(t, "\\ = v0 ? @ v1 1 v0 v0", "((num->num)->(num->num))")
	checkInfer(t, "\\ \\ = ? 0 v0 v1 = + v0 1 v1", "(num->(num->num))")
	checkInfer(t, "\\ \\ = \\ ? 0 v1 v0 @ v0 v2", "(a0->(a0->a0))")
	checkInfer(t, "\\ = \\ \\ ? 0 v2 v1 @ @ v0 v1 @ @ v0 5 v1", "(num->num)")
	checkInfer(t, "\\ = \\ \\ ? 0 v2 v1 @ @ v0 v1 @ @ v0 v1 \\ v0", "(a0->a0)")
	// What TmLet binds outside has new ones within, what TmLam binds has none.
	checkInfer(t, "= \\ v0 \\ = v1 @ @ v0 v0 v1", "(a0->a0)")
	checkInfer(t, "\\ = \\ v0 = v1 @ @ v1 v0 @ v1 v2", "")
}

func TestInferOfHowManyCells(t *testing.T) {
	for cells := 30; cells <= 50; cells++ {
		l := longTerm(cells)
		got, ok := impl.InferType(l)
		want := "num"
		if cells%2 == 0 {
			want = "(a0->num)"
		}
		if cells > 40 {
			want = ""
		}
		sameType(t, fmt.Sprintf("%d cells", cells), got, ok, typeOf(want), cells <= 40)
		is, ok := impl.CheckTerm(l, typeOf("num"))
		if is != (want == "num") || ok != (cells <= 40) {
			t.Errorf("%d cells: CheckTerm %v %v", cells, is, ok)
		}
	}
	if _, ok := impl.InferType(longTerm(600)); ok {
		t.Error("600 cells have a type")
	}
}

func TestInferOfFreeVariables(t *testing.T) {
	for _, text := range []string{"v0", "v99", "\\ v1", "+ v0 1", "= v0 1", "= 1 v1", "@ \\ v0 v0", "@ \\ 5 v0", "\\ = v0 v2", "? 0 1 v3", "= \\ v0 @ v0 v1"} {
		checkInfer(t, text, "")
		if is, ok := impl.CheckTerm(termOf(text), typeOf("num")); is || ok {
			t.Errorf("CheckTerm(%q): %v %v", text, is, ok)
		}
	}
}

// TestTypesOfMostCells: a type has an odd count of cells, so that 59 are the most that are good, and 61 too many.
func TestTypesOfMostCells(t *testing.T) {
	for bound := 25; bound <= 39; bound++ {
		var ends []*plainTy
		for n := range bound {
			ends = append(ends, varTy(n))
		}
		for far := range bound {
			l := lams(bound, tmVar(far))
			want := longType("to", append(slices.Clone(ends), varTy(bound-1-far))...).cells()
			is := bound <= 29
			if !is {
				want = nil
			}
			got, ok := impl.InferType(l)
			sameType(t, fmt.Sprintf("InferType(%q)", textOf(l)), got, ok, want, is)
			// A part may have a type of any size.
			if len(l) <= 37 {
				checkInfer(t, "@ \\ 5 "+textOf(l), "num")
			}
		}
	}
	// 29 TmLam and a term of two cells: two more cells of the type.
	checkInfer(t, textOf(lams(28, termOf("\\ v0")...)), longType("to", append(upVars(29), varTy(28))...).text())
	checkInfer(t, textOf(lams(29, termOf("\\ v0")...)), "")
	checkInfer(t, textOf(lams(28, termOf("+ v0 v1")...)), longType("to", append(upVars(26), numTy(), numTy(), numTy())...).text())
}

func upVars(count int) []*plainTy {
	out := differentVars(count)
	slices.Reverse(out)
	return out
}

// doublings tells TmLet of a function that makes a pair of something and itself, and then, for each number, TmLet of the last one so many times.
func doublings(times ...int) string {
	out := "= \\ \\ @ @ v0 v1 v1 "
	for _, n := range times {
		out += "= \\ "
		for range n {
			out += "@ v1 "
		}
		out += "v0 "
	}
	return out
}

// TestPartsOfVastTypes: parts have types of up to some hundred million cells, which nobody writes down.
func TestPartsOfVastTypes(t *testing.T) {
	vast := doublings(3, 3, 3)
	checkInfer(t, vast+"@ \\ 5 v0", "num")
	checkInfer(t, vast+"v0", "")
	checkInfer(t, vast+"@ v0 5", "")
	checkInfer(t, vast+"+ v0 5", "")
	checkInfer(t, vast+"= v0 5", "num")
	checkInfer(t, vast+"\\ v0", "(a0->a0)")
	checkInfer(t, doublings(4, 4)+"@ \\ 5 @ v0 v0", "num")
	checkInfer(t, doublings(4, 4)+"@ \\ 5 ? 0 v0 v0", "num")
	checkInfer(t, doublings(4, 4)+"@ \\ 5 ? 0 v0 @ v0 1", "")
	checkInfer(t, doublings(2, 2, 2)+"@ \\ 5 ? @ \\ 0 v0 v0 v0", "num")
	checkInfer(t, doublings(6, 3)+"@ @ \\ \\ v1 5 v0", "num")
	checkInfer(t, doublings()+"@ v0 5", "((num->(num->a0))->a0)")
	checkInfer(t, doublings(2)+"@ v0 5", "((((num->(num->a0))->a0)->(((num->(num->a0))->a0)->a1))->a1)")
}

func TestCheckByHand(t *testing.T) {
	for _, ty := range []string{"(a0->a0)", "(a7->a7)", "(num->num)", "((a0->num)->(a0->num))", "((a1->a0)->(a1->a0))"} {
		checkHas(t, "\\ v0", ty, true)
	}
	for _, ty := range []string{"a0", "num", "(a0->a1)", "(num->a0)", "(a0->num)", "((a0->a1)->(a1->a0))"} {
		checkHas(t, "\\ v0", ty, false)
	}
	checkHas(t, "5", "num", true)
	checkHas(t, "5", "a0", false)
	checkHas(t, "5", "(num->num)", false)
	checkHas(t, "\\ \\ @ v1 v0", "((a0->a1)->(a0->a1))", true)
	checkHas(t, "\\ \\ @ v1 v0", "((a1->a0)->(a1->a0))", true)
	checkHas(t, "\\ \\ @ v1 v0", "((a0->a0)->(a0->a0))", true)
	checkHas(t, "\\ \\ @ v1 v0", "(a0->a0)", false)
	checkHas(t, "\\ \\ @ v1 v0", "((a0->a1)->(a1->a0))", false)
	checkHas(t, textOf(lams(29, tmVar(0))), longType("to", slices.Repeat([]*plainTy{numTy()}, 30)...).text(), true)
	checkHas(t, textOf(lams(29, tmVar(28))), longType("to", differentVars(30)...).text(), false)
}

func TestCheckOfManyTerms(t *testing.T) {
	types := upToTypes(5, 2)
	held := 0
	for cells := 1; cells <= 5; cells++ {
		for _, l := range closedTerms(cells, 0) {
			most, typed, _ := plainInfer(l)
			for _, ty := range types {
				want := typed && plainInstance(ty, treeOfType(most))
				if is, ok := impl.CheckTerm(l, ty.cells()); is != want || ok != typed {
					t.Errorf("CheckTerm(%q, %s): %v %v", textOf(l), ty.text(), is, ok)
				}
				if want {
					held++
				}
			}
		}
	}
	if held < 300 {
		t.Error("few hold:", held)
	}
}
