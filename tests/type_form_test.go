package tests

import (
	"fmt"
	"slices"
	"testing"

	"loop.example/g00339/impl"
)

func checkInstance(t *testing.T, a, b string, want bool) {
	t.Helper()
	if is, ok := impl.IsInstance(typeOf(a), typeOf(b)); is != want || !ok {
		t.Errorf("IsInstance(%s, %s): %v %v, want %v", a, b, is, ok, want)
	}
}

func checkTidy(t *testing.T, text, want string) {
	t.Helper()
	got, ok := impl.TidyType(typeOf(text))
	sameType(t, fmt.Sprintf("TidyType(%s)", text), got, ok, typeOf(want), true)
}

func checkTypeText(t *testing.T, l []impl.TyCell, want string) {
	t.Helper()
	if got, ok := impl.TypeText(l); got != want || !ok {
		t.Errorf("TypeText(%v): %q %v, want %q", l, got, ok, want)
	}
}

func TestTypeConstants(t *testing.T) {
	if impl.MaxType != 60 || impl.TyVar != 1 || impl.TyNum != 2 || impl.TyFun != 3 {
		t.Error(impl.MaxType, impl.TyVar, impl.TyNum, impl.TyFun)
	}
}

// TestGoodTypeOfAllShortLists holds each list of at most five cells, good ones and wrong ones, against a reader of its own.
func TestGoodTypeOfAllShortLists(t *testing.T) {
	some := []impl.TyCell{tyFun, tyVar(0), tyVar(30), tyNum, tyVar(-1), tyVar(31), {Kind: impl.TyNum, N: 1}, {Kind: impl.TyFun, N: 1}, {}, {Kind: 4}}
	lists := [][]impl.TyCell{nil}
	for at := 0; at < len(lists); at++ {
		l := lists[at]
		if got, want := impl.GoodType(l), treeOfType(l) != nil; got != want {
			t.Errorf("GoodType(%v): %v", l, got)
		}
		if len(l) == 5 {
			continue
		}
		for _, c := range some {
			lists = append(lists, append(slices.Clone(l), c))
		}
	}
}

func TestGoodTypesAtTheirBounds(t *testing.T) {
	for n := -2; n <= 33; n++ {
		if got, want := impl.GoodType([]impl.TyCell{tyVar(n)}), n >= 0 && n <= 30; got != want {
			t.Errorf("TyVar %d: %v", n, got)
		}
		if got, want := impl.GoodType([]impl.TyCell{{Kind: impl.TyNum, N: n}}), n == 0; got != want {
			t.Errorf("TyNum %d: %v", n, got)
		}
		if got, want := impl.GoodType([]impl.TyCell{{Kind: impl.TyFun, N: n}, tyNum, tyNum}), n == 0; got != want {
			t.Errorf("TyFun %d: %v", n, got)
		}
	}
	// A type has an odd count of cells: 59 is the most.
	for _, within := range []string{"from", "to"} {
		for ends := 1; ends <= 40; ends++ {
			l := longType(within, slices.Repeat([]*plainTy{numTy()}, ends)...).cells()
			if got, want := impl.GoodType(l), len(l) <= impl.MaxType; got != want {
				t.Errorf("%d cells, %s: %v", len(l), within, got)
			}
			if impl.GoodType(l[:len(l)-1]) || impl.GoodType(append(l, tyNum)) || impl.GoodType(append([]impl.TyCell{tyFun}, l...)) {
				t.Errorf("%d cells, %s: good with one more or less", len(l), within)
			}
		}
	}
}

func TestTypeTexts(t *testing.T) {
	checkTypeText(t, []impl.TyCell{tyVar(0)}, "a0")
	checkTypeText(t, []impl.TyCell{tyVar(30)}, "a30")
	checkTypeText(t, []impl.TyCell{tyNum}, "num")
	checkTypeText(t, []impl.TyCell{tyFun, tyNum, tyVar(7)}, "(num->a7)")
	checkTypeText(t, []impl.TyCell{tyFun, tyFun, tyVar(1), tyNum, tyVar(12)}, "((a1->num)->a12)")
	checkTypeText(t, []impl.TyCell{tyFun, tyVar(1), tyFun, tyNum, tyVar(12)}, "(a1->(num->a12))")
	checkTypeText(t, []impl.TyCell{tyFun, tyFun, tyVar(1), tyNum, tyFun, tyNum, tyNum}, "((a1->num)->(num->num))")
	for _, x := range upToTypes(7, 2) {
		checkTypeText(t, x.cells(), x.text())
	}
	for _, within := range []string{"from", "to"} {
		x := longType(within, differentVars(30)...)
		checkTypeText(t, x.cells(), x.text())
	}
	d := draw(5)
	for range 2000 {
		x := drawType(&d, 1+d.below(30), 31)
		checkTypeText(t, x.cells(), x.text())
	}
}

func TestTidyByHand(t *testing.T) {
	checkTidy(t, "num", "num")
	checkTidy(t, "a0", "a0")
	checkTidy(t, "a30", "a0")
	checkTidy(t, "(a1->a0)", "(a0->a1)")
	checkTidy(t, "(a0->a1)", "(a0->a1)")
	checkTidy(t, "(a5->a5)", "(a0->a0)")
	checkTidy(t, "(a2->(a0->(a1->(a2->a1))))", "(a0->(a1->(a2->(a0->a2))))")
	checkTidy(t, "((a1->num)->(a0->(num->a1)))", "((a0->num)->(a1->(num->a0)))")
	checkTidy(t, "(num->a30)", "(num->a0)")
}

// TestTidyOfManyTypes holds TidyType against a plain one; what is tidy stays, and both are instances of each other.
func TestTidyOfManyTypes(t *testing.T) {
	types := upToTypes(7, 3)
	d := draw(55)
	for range 3000 {
		types = append(types, drawType(&d, 1+d.below(30), 1+d.below(31)))
	}
	for _, within := range []string{"from", "to"} {
		types = append(types, longType(within, differentVars(30)...), longType(within, append(differentVars(31)[:29], varTy(30))...))
	}
	for _, x := range types {
		want := tidyTree(x).cells()
		got, ok := impl.TidyType(x.cells())
		sameType(t, fmt.Sprintf("TidyType(%s)", x.text()), got, ok, want, true)
		again, ok := impl.TidyType(got)
		sameType(t, fmt.Sprintf("TidyType(%s) again", x.text()), again, ok, want, true)
		there, _ := impl.IsInstance(got, x.cells())
		back, _ := impl.IsInstance(x.cells(), got)
		if !there || !back {
			t.Errorf("%s and tidy: %v %v", x.text(), there, back)
		}
	}
}

func TestInstancesByHand(t *testing.T) {
	for _, a := range []string{"num", "a0", "a3", "(a3->num)", "((a0->a1)->(a1->a0))"} {
		checkInstance(t, a, a, true)
		checkInstance(t, a, "a0", true)
		checkInstance(t, a, "a30", true)
		checkInstance(t, "("+a+"->"+a+")", "(a4->a4)", true)
		checkInstance(t, "("+a+"->"+a+")", "(a4->a5)", true)
		checkInstance(t, "("+a+"->(num->"+a+"))", "(a4->a4)", false)
	}
	checkInstance(t, "a0", "num", false)
	checkInstance(t, "num", "(a0->a1)", false)
	checkInstance(t, "(a0->a1)", "num", false)
	checkInstance(t, "a0", "(a0->a1)", false)
	checkInstance(t, "(num->a0)", "(a0->num)", false)
	checkInstance(t, "(num->num)", "(a0->num)", true)
	// One variable at two places.
	checkInstance(t, "(num->num)", "(a3->a3)", true)
	checkInstance(t, "(num->a3)", "(a3->a3)", false)
	checkInstance(t, "(a3->num)", "(a3->a3)", false)
	checkInstance(t, "(a0->a1)", "(a3->a3)", false)
	checkInstance(t, "((num->a0)->(num->a0))", "(a1->a1)", true)
	checkInstance(t, "((num->a0)->(num->a1))", "(a1->a1)", false)
	checkInstance(t, "(a0->(a0->a1))", "(a0->(a1->a1))", false)
	checkInstance(t, "(a0->(a1->a0))", "(a0->(a1->a2))", true)
	// A variable of b has the number of one of a.
	checkInstance(t, "(a1->a0)", "(a0->a1)", true)
	checkInstance(t, "(a1->(a0->a1))", "(a0->(a1->a0))", true)
	checkInstance(t, "((a0->a0)->a0)", "(a0->a1)", true)
	checkInstance(t, "((a0->num)->a0)", "(a0->a0)", false)
	checkInstance(t, "(a1->a1)", "(a0->a1)", true)
	checkInstance(t, "(a0->a1)", "(a1->a1)", false)
}

func TestInstancesOfManyTypes(t *testing.T) {
	types := upToTypes(5, 3)
	count := 0
	for _, a := range types {
		for _, b := range types {
			want := plainInstance(a, b)
			checkInstance(t, a.text(), b.text(), want)
			if want {
				count++
			}
		}
	}
	if count < 1000 {
		t.Error("few instances:", count)
	}
}

// TestInstancesOfDrawnTypes makes types of types, with types in the place of variables, and changes one end of them.
func TestInstancesOfDrawnTypes(t *testing.T) {
	d := draw(555)
	instances, others := 0, 0
	for range 10000 {
		b := drawType(&d, 1+d.below(8), 1+d.below(5))
		var put []*plainTy
		for range 5 {
			put = append(put, drawType(&d, 1+d.below(3), 3))
		}
		a := b.with(func(n int) *plainTy { return put[n] })
		if d.below(2) == 0 {
			a = drawType(&d, 1+d.below(8), 3)
		}
		if d.below(3) == 0 {
			at := d.below(30)
			a = a.with(func(n int) *plainTy {
				at--
				if at == 0 {
					return varTy(9)
				}
				return varTy(n)
			})
		}
		want := plainInstance(a, b)
		checkInstance(t, a.text(), b.text(), want)
		if want {
			instances++
		} else {
			others++
		}
	}
	if instances < 2000 || others < 2000 {
		t.Error("few of a kind:", instances, others)
	}
}

func TestInstancesOfLongTypes(t *testing.T) {
	for _, within := range []string{"from", "to"} {
		other := map[string]string{"from": "to", "to": "from"}[within]
		vars := longType(within, differentVars(30)...).text()
		nums := longType(within, slices.Repeat([]*plainTy{numTy()}, 30)...).text()
		one := longType(within, slices.Repeat([]*plainTy{varTy(8)}, 30)...).text()
		checkInstance(t, nums, vars, true)
		checkInstance(t, one, vars, true)
		checkInstance(t, nums, one, true)
		checkInstance(t, vars, one, false)
		checkInstance(t, vars, nums, false)
		checkInstance(t, vars, vars, true)
		checkInstance(t, longType(other, differentVars(30)...).text(), vars, false)
		checkInstance(t, longType(other, differentVars(30)...).text(), "(a0->a1)", true)
	}
}
