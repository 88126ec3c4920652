package tests

import (
	"slices"
	"testing"

	"loop.example/g00339/impl"
)

const endless = "@ \\ @ v0 v0 \\ @ v0 v0"

func checkRun(t *testing.T, l []impl.Cell, fuel int, code, num, steps int) {
	t.Helper()
	gotCode, gotNum, gotSteps, ok := impl.RunTerm(l, fuel)
	if gotCode != code || gotNum != num || gotSteps != steps || !ok {
		t.Errorf("RunTerm(%q, %d): %d %d %d %v, want %d %d %d", textOf(l), fuel, gotCode, gotNum, gotSteps, ok, code, num, steps)
	}
}

// TestRunOfManyTerms holds RunTerm and ReadBack against a run part by part.
func TestRunOfManyTerms(t *testing.T) {
	seen := map[int]int{}
	for i, l := range termsToRun() {
		code, v, steps := plainRunOf(l, 2000)
		seen[code]++
		num := 0
		if code == impl.RunNumber {
			num = v.num
		}
		checkRun(t, l, 2000, code, num, steps)
		if steps < 2000 {
			checkRun(t, l, steps, code, num, steps)
		}
		if steps > 0 {
			less := []int{steps - 1, 0, steps / 2}[i%3]
			checkRun(t, l, less, impl.RunFuel, 0, less)
		}
		if v == nil {
			continue
		}
		m, made, ok := impl.PlayMachine(l, 2000)
		if made != steps || !ok {
			t.Errorf("PlayMachine(%q): %d %v, want %d", textOf(l), made, ok, steps)
		}
		got, is := impl.ReadBack(l, m)
		want, room := plainBack(v)
		sameTerm(t, "ReadBack of "+textOf(l), got, is, want, room)
	}
	if seen[impl.RunNumber] < 5000 || seen[impl.RunFunction] < 8000 || seen[impl.RunStuck] < 8000 || seen[impl.RunFuel]+seen[impl.RunLarge] < 200 {
		t.Error("few of a kind:", seen)
	}
}

// comesAlike holds promise 6 at one term, and tells whether both came to a value.
func comesAlike(t *testing.T, l []impl.Cell) bool {
	t.Helper()
	code, num, _, ok := impl.RunTerm(l, 2000)
	last, ended := callsToEnd(l, 700)
	value, _ := impl.IsValue(last)
	hasRoom := namedOf(last).called() == nil
	told := ok && (code == impl.RunNumber || code == impl.RunFunction)
	switch {
	case !ended || code == impl.RunFuel || code == impl.RunLarge:
		return false
	case value && !told:
		t.Errorf("%q comes to %q, the machine tells %d %v", textOf(l), textOf(last), code, ok)
	case told && !value && hasRoom:
		t.Errorf("%q is stuck at %q, the machine tells %d %d", textOf(l), textOf(last), code, num)
	case told && value:
		m, _, _ := impl.PlayMachine(l, 2000)
		back, is := impl.ReadBack(l, m)
		sameTerm(t, textOf(l), back, is, last, true)
		if code == impl.RunNumber && !slices.Equal(last, []impl.Cell{tmNum(num)}) || code == impl.RunFunction && (last[0].Kind != impl.TmLam || num != 0) {
			t.Errorf("%q comes to %q, the machine tells %d %d", textOf(l), textOf(last), code, num)
		}
		return true
	}
	return false
}

// TestMachineComesToWhatStepsComeTo holds promise 6: the machine comes to what steps by value come to, where there is room.
func TestMachineComesToWhatStepsComeTo(t *testing.T) {
	alike, far := 0, 0
	for _, l := range termsToRun() {
		if !comesAlike(t, l) {
			continue
		}
		alike++
		if _, _, steps, _ := impl.RunTerm(l, 2000); steps > 30 {
			far++
		}
	}
	if alike < 20000 || far < 1000 {
		t.Error("few come to a value:", alike, far)
	}
	for _, text := range []string{
		"@ @ \\ \\ v1 5 6", "@ @ \\ \\ v0 5 6", "= 1 = 2 = 3 \\ + v1 + v2 v3", "@ \\ \\ \\ + v2 v1 7", "= \\ \\ v1 @ v0 @ v0 3",
		"@ @ \\ \\ @ v1 @ v1 v0 \\ + v0 v0 3", "@ @ \\ \\ @ v1 @ v1 v0 \\ @ \\ v0 v0 \\ v0", "= 4 = \\ + v0 v1 @ v0 @ v0 1",
		"= 9 = \\ \\ + v2 v0 @ @ v0 1 2", "= 9 = \\ \\ + v2 v0 @ v0 1", "? @ \\ v0 0 \\ 1 \\ 2",
	} {
		if !comesAlike(t, termOf(text)) {
			t.Errorf("%q comes to no value", text)
		}
	}
}

func TestRunByHand(t *testing.T) {
	for _, row := range []struct {
		text             string
		code, num, steps int
	}{
		{"5", impl.RunNumber, 5, 1},
		{"-1000000", impl.RunNumber, -1000000, 1},
		{"0", impl.RunNumber, 0, 1},
		{"\\ v0", impl.RunFunction, 0, 1},
		{"\\ @ 1 2", impl.RunFunction, 0, 1},
		{"+ 1 2", impl.RunNumber, 3, 5},
		{"+ 999999 1", impl.RunNumber, 1000000, 5},
		{"+ 1000000 1", impl.RunStuck, 0, 4},
		{"+ -999999 -1", impl.RunNumber, -1000000, 5},
		{"+ -1000000 -1", impl.RunStuck, 0, 4},
		{"+ 1000000 -1000000", impl.RunNumber, 0, 5},
		{"+ \\ v0 1", impl.RunStuck, 0, 4},
		{"+ 1 \\ v0", impl.RunStuck, 0, 4},
		{"+ \\ v0 + 3 4", impl.RunStuck, 0, 8},
		{"@ \\ v0 5", impl.RunNumber, 5, 6},
		{"@ 1 2", impl.RunStuck, 0, 4},
		{"@ 1 \\ v0", impl.RunStuck, 0, 4},
		{"@ 1 + 2 3", impl.RunStuck, 0, 8},
		{"@ 1 " + endless, impl.RunFuel, 0, 100},
		{"? 0 1 2", impl.RunNumber, 1, 4},
		{"? 9 1 2", impl.RunNumber, 2, 4},
		{"? -1 1 2", impl.RunNumber, 2, 4},
		{"? \\ v0 1 2", impl.RunStuck, 0, 2},
		{"? 0 1 " + endless, impl.RunNumber, 1, 4},
		{"? 1 " + endless + " \\ v0", impl.RunFunction, 0, 4},
		{"= 5 v0", impl.RunNumber, 5, 4},
		{"= 5 \\ + v1 v0", impl.RunFunction, 0, 4},
		{"= 1 = 2 = 3 v0", impl.RunNumber, 3, 10},
		{"= 1 = 2 = 3 v1", impl.RunNumber, 2, 10},
		{"= 1 = 2 = 3 v2", impl.RunNumber, 1, 10},
		{"= @ 1 2 3", impl.RunStuck, 0, 5},
		{"@ \\ + v0 v0 + 1 2", impl.RunNumber, 6, 14},
		{"= 7 = \\ v1 = 8 @ v1 0", impl.RunNumber, 7, 15},
		{endless, impl.RunFuel, 0, 100},
	} {
		checkRun(t, termOf(row.text), 100, row.code, row.num, row.steps)
	}
}

func TestRunFuel(t *testing.T) {
	const text = "@ \\ + v0 v0 + 1 2"
	for fuel := range 14 {
		checkRun(t, termOf(text), fuel, impl.RunFuel, 0, fuel)
	}
	for _, fuel := range []int{14, 15, 100, 1999, 2000} {
		checkRun(t, termOf(text), fuel, impl.RunNumber, 6, 14)
	}
	for _, fuel := range []int{0, 1, 2, 3} {
		checkRun(t, termOf("@ 1 2"), fuel, impl.RunFuel, 0, fuel)
	}
	for _, fuel := range []int{4, 5, 2000} {
		checkRun(t, termOf("@ 1 2"), fuel, impl.RunStuck, 0, 4)
	}
	checkRun(t, termOf("5"), 0, impl.RunFuel, 0, 0)
	checkRun(t, termOf("5"), 1, impl.RunNumber, 5, 1)
	checkRun(t, termOf(endless), 2000, impl.RunFuel, 0, 2000)
	for _, fuel := range []int{-1, 2001, 1<<63 - 1, -1 << 63} {
		code, num, steps, ok := impl.RunTerm(termOf(text), fuel)
		m, made, is := impl.PlayMachine(termOf(text), fuel)
		if code != 0 || num != 0 || steps != 0 || ok || !isZeroMachine(m) || made != 0 || is {
			t.Error(fuel, code, num, steps, ok, m, made, is)
		}
	}
}

// longRun tells a closed term that comes to 1 after some 1850 steps, and 3 more for each of so many parts, and what more asks for.
func longRun(parts int, more string) []impl.Cell {
	out := slices.Concat(termOf("= \\"), slices.Repeat(termOf("? v0 v0"), 100), termOf("v0"))
	for call := range 6 {
		out = append(out, tmOf(impl.TmLet), tmOf(impl.TmApp), tmVar(call), tmNum(1))
	}
	return slices.Concat(out, slices.Repeat(termOf("? v0 v0"), parts), termOf(more), termOf("v0"))
}

// TestRunWithJustMaxFuel looks for terms that need just so many steps.
func TestRunWithJustMaxFuel(t *testing.T) {
	just := map[int][]impl.Cell{}
	for parts := range 80 {
		for _, more := range []string{"", "+ 0", "@ \\ v0"} {
			l := longRun(parts, more)
			_, _, steps := plainRunOf(l, 9000)
			just[steps] = l
		}
	}
	for _, needed := range []int{1999, 2000, 2001} {
		l := just[needed]
		if l == nil {
			t.Fatal("no term of just so many steps:", needed)
		}
		for _, fuel := range []int{1998, 1999, 2000} {
			if needed <= fuel {
				checkRun(t, l, fuel, impl.RunNumber, 1, needed)
			} else {
				checkRun(t, l, fuel, impl.RunFuel, 0, fuel)
			}
			m, made, ok := impl.PlayMachine(l, fuel)
			if made != min(needed, fuel) || !ok || (m.Done && len(m.Frames) == 0) != (needed <= fuel) {
				t.Error(needed, fuel, made, ok, m.Done)
			}
		}
	}
}
