package tests

import (
	"fmt"
	"slices"
	"testing"

	"loop.example/g00339/impl"
)

func shiftsAsPlain(t *testing.T, l []impl.Cell, by, from int) {
	t.Helper()
	got, ok := impl.ShiftTerm(l, by, from)
	want, is := plainShift(l, by, from)
	sameTerm(t, fmt.Sprintf("ShiftTerm(%q, %d, %d)", textOf(l), by, from), got, ok, want, is)
	if !ok {
		return
	}
	back, ok := impl.ShiftTerm(got, -by, from)
	sameTerm(t, fmt.Sprintf("ShiftTerm(%q, %d, %d) and back", textOf(l), by, from), back, ok, l, true)
}

func TestShiftOfManyTerms(t *testing.T) {
	for _, l := range upToCells(4, 4) {
		for by := -3; by <= 3; by++ {
			for from := range 4 {
				shiftsAsPlain(t, l, by, from)
			}
		}
	}
	d := draw(5)
	for range 5000 {
		l := drawTerm(&d, 1+d.below(40), 1+d.below(100))
		shiftsAsPlain(t, l, d.below(103)-51, d.below(10))
		shiftsAsPlain(t, l, d.below(9)-4, d.below(102)-1)
	}
}

func checkShift(t *testing.T, text string, by, from int, want string) {
	t.Helper()
	got, ok := impl.ShiftTerm(termOf(text), by, from)
	sameTerm(t, fmt.Sprintf("ShiftTerm(%q, %d, %d)", text, by, from), got, ok, termOf(want), want != "")
}

func TestShiftByHand(t *testing.T) {
	checkShift(t, "\\ @ v0 v1", 2, 0, "\\ @ v0 v3")
	checkShift(t, "@ v2 @ v3 v4", 5, 3, "@ v2 @ v8 v9")
	checkShift(t, "\\ @ v2 @ v3 v4", 5, 3, "\\ @ v2 @ v3 v9")
	checkShift(t, "= v0 v0", 1, 0, "= v1 v0")
	checkShift(t, "= v0 v1", 1, 0, "= v1 v2")
	checkShift(t, "= = v0 v1 = v1 v2", 10, 0, "= = v10 v11 = v11 v12")
	checkShift(t, "? v0 \\ v0 7", 3, 0, "? v3 \\ v0 7")
	checkShift(t, "+ v1 -3", -1, 0, "+ v0 -3")
	checkShift(t, "+ v1 v2", -1, 1, "")
	checkShift(t, "+ v1 v3", -1, 2, "+ v1 v2")
	checkShift(t, "\\ v1", -1, 0, "")
	checkShift(t, "\\ v2", -1, 0, "\\ v1")
	checkShift(t, "\\ v0", -50, 0, "\\ v0")
	checkShift(t, "@ v0 v1", 0, 0, "@ v0 v1")
	checkShift(t, "v0", 0, 99, "v0")
	checkShift(t, "\\ v99", 1, 99, "\\ v99")
	checkShift(t, "\\ v99", 1, 98, "")
	checkShift(t, "\\ v98", 1, 97, "\\ v99")
	checkShift(t, "\\ v99", -1, 97, "\\ v98")
	checkShift(t, "\\ v99", -1, 98, "")
	checkShift(t, "@ v0 v1", -1, 0, "")
}

func TestShiftAtItsBounds(t *testing.T) {
	checkShift(t, "v49", 50, 0, "v99")
	checkShift(t, "v49", 50, 49, "v99")
	checkShift(t, "v50", 50, 0, "")
	checkShift(t, "v49", 51, 0, "")
	checkShift(t, "v0", 51, 0, "")
	checkShift(t, "5", 51, 0, "")
	checkShift(t, "5", -51, 0, "")
	checkShift(t, "5", 50, 0, "5")
	checkShift(t, "5", -50, 99, "5")
	checkShift(t, "v50", -50, 0, "v0")
	checkShift(t, "v49", -50, 0, "")
	checkShift(t, "v99", -50, 49, "v49")
	checkShift(t, "v99", -50, 50, "")
	checkShift(t, "v99", -51, 0, "")
	checkShift(t, "v99", 0, 99, "v99")
	checkShift(t, "v99", 1, 99, "")
	checkShift(t, "v98", 1, 99, "v98")
	checkShift(t, "v98", 1, 98, "v99")
	checkShift(t, "v0", 0, 100, "")
	checkShift(t, "v0", 0, -1, "")
	const most, least = 1<<63 - 1, -1 << 63
	for _, wrong := range []int{most, least} {
		checkShift(t, "\\ v0", wrong, 0, "")
		checkShift(t, "\\ v0", 0, wrong, "")
	}
}

func TestShiftOfTheLongest(t *testing.T) {
	l := lams(599, tmVar(99))
	got, ok := impl.ShiftTerm(l, 50, 0)
	sameTerm(t, "all bound", got, ok, l, true)
	got, ok = impl.ShiftTerm(lams(40, tmVar(50)), 49, 0)
	sameTerm(t, "under 40", got, ok, lams(40, tmVar(99)), true)
	got, ok = impl.ShiftTerm(lams(40, tmVar(50)), 50, 0)
	sameTerm(t, "under 40", got, ok, nil, false)
	got, ok = impl.ShiftTerm(lams(40, tmVar(39)), 50, 0)
	sameTerm(t, "under 40", got, ok, lams(40, tmVar(39)), true)
	got, ok = impl.ShiftTerm(longTerm(600), -50, 0)
	sameTerm(t, "no variable", got, ok, longTerm(600), true)
}

// TestShiftsAddUp holds that what is shifted twice from one place is shifted once by both.
func TestShiftsAddUp(t *testing.T) {
	d := draw(6)
	for range 2000 {
		l := drawTerm(&d, 1+d.below(20), 20)
		a, b, from := d.below(20), d.below(20), d.below(12)
		once, _ := impl.ShiftTerm(l, a, from)
		twice, ok := impl.ShiftTerm(once, b, from)
		both, is := impl.ShiftTerm(l, a+b, from)
		if !ok || !is || !slices.Equal(twice, both) {
			t.Errorf("%q by %d and %d from %d: %q, %q", textOf(l), a, b, from, textOf(twice), textOf(both))
		}
	}
}
