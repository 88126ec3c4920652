package tests

import (
	"testing"

	"loop.example/g00339/impl"
)

// keepsItsType follows a term by value as long as it steps and is short enough, and tells how many steps were held against its type.
func keepsItsType(t *testing.T, l []impl.Cell) int {
	t.Helper()
	ty, ok := impl.InferType(l)
	for steps := range 60 {
		next, is := impl.CallStep(l)
		if !ok || !is || len(next) > 40 {
			return steps
		}
		nextTy, nextOk := impl.InferType(next)
		instance, told := impl.IsInstance(ty, nextTy)
		if !nextOk || !instance || !told {
			t.Errorf("%q has %v, steps to %q, which has %v %v", textOf(l), ty, textOf(next), nextTy, nextOk)
			return steps
		}
		if has, told := impl.CheckTerm(next, ty); !has || !told {
			t.Errorf("CheckTerm(%q, %v): %v %v", textOf(next), ty, has, told)
		}
		l, ty, ok = next, nextTy, nextOk
	}
	return 60
}

// TestStepsKeepTypes holds promise 5: what a term steps to by value has its type, or a more general one.
func TestStepsKeepTypes(t *testing.T) {
	steps, far := 0, 0
	for _, l := range termsToType() {
		made := keepsItsType(t, l)
		steps += made
		if made > 5 {
			far++
		}
	}
	if steps < 15000 || far < 500 {
		t.Error("few steps:", steps, far)
	}
}

// TestStepsToMoreGeneral: what is left out on the way asks nothing any more.
func TestStepsToMoreGeneral(t *testing.T) {
	for _, row := range [][3]string{
		{"@ \\ \\ v0 5", "(a0->a0)", "(a0->a0)"},
		{"? 0 \\ v0 \\ 5", "(num->num)", "(a0->a0)"},
		{"? 1 \\ v0 \\ 5", "(num->num)", "(a0->num)"},
		{"? 0 \\ v0 \\ + v0 1", "(num->num)", "(a0->a0)"},
		{"? 0 \\ \\ v0 \\ \\ v1", "(a0->(a0->a0))", "(a0->(a1->a1))"},
		{"@ \\ v0 \\ v0", "(a0->a0)", "(a0->a0)"},
		{"= \\ v0 @ v0 v0", "(a0->a0)", "(a0->a0)"},
		{"= \\ v0 @ @ v0 v0 5", "num", "num"},
		{"@ \\ \\ ? 0 v0 v1 \\ 5", "((a0->num)->(a0->num))", "((a0->num)->(a0->num))"},
	} {
		l := termOf(row[0])
		checkInfer(t, row[0], row[1])
		next, ok := impl.CallStep(l)
		if !ok {
			t.Fatal(row)
		}
		checkInfer(t, textOf(next), row[2])
		keepsItsType(t, l)
	}
}

// TestTypedTermsAreNotStuck: by its type a term that is no value steps, but for a sum beyond the bound and a term without room.
func TestTypedTermsAreNotStuck(t *testing.T) {
	for _, l := range termsToType() {
		if _, ok := impl.InferType(l); !ok {
			continue
		}
		value, _ := impl.IsValue(l)
		small := true
		for _, c := range l {
			small = small && c.N > -1000 && c.N < 1000
		}
		if _, ok := impl.CallStep(l); !ok && !value && small {
			t.Errorf("%q has a type, is no value and does not step", textOf(l))
		}
	}
}
