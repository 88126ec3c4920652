package tests

import (
	"slices"
	"testing"

	"loop.example/g00339/impl"
)

func checkRunHanded(t *testing.T, l []impl.Cell, fuel int, code, num int) {
	t.Helper()
	gotCode, gotNum, ok := impl.RunHanded(l, fuel)
	if gotCode != code || gotNum != num || !ok {
		t.Errorf("RunHanded(%q, %d): %d %d %v, want %d %d", textOf(l), fuel, gotCode, gotNum, ok, code, num)
	}
}

// plainRunHanded tells how the run of what is made ends, its number, and after how many steps.
func plainRunHanded(l []impl.Cell, fuel int) (int, int, int) {
	code, v, steps := plainRunOf(handedToRun(l), fuel)
	if code == impl.RunNumber {
		return code, v.num, steps
	}
	return code, 0, steps
}

func isEnd(code int) bool {
	return code == impl.RunNumber || code == impl.RunFunction || code == impl.RunStuck
}

// TestHandedComesToWhatItCameTo holds promise 7: where fuel and room suffice for both, what is handed on comes to what the term comes to.
func TestHandedComesToWhatItCameTo(t *testing.T) {
	seen := map[int]int{}
	far := 0
	for _, l := range termsToHand() {
		code, num, steps, ok := impl.RunTerm(l, 2000)
		handedCode, handedNum, is := impl.RunHanded(l, 2000)
		if !ok || !is {
			t.Fatalf("%q: %v %v", textOf(l), ok, is)
		}
		if !isEnd(code) || !isEnd(handedCode) {
			continue
		}
		seen[code]++
		if steps > 30 {
			far++
		}
		if code != handedCode || num != handedNum {
			t.Errorf("%q comes to %d %d, handed on to %d %d", textOf(l), code, num, handedCode, handedNum)
		}
	}
	if seen[impl.RunNumber] < 5000 || seen[impl.RunFunction] < 8000 || seen[impl.RunStuck] < 8000 || far < 1000 {
		t.Error("few of a kind:", seen, far)
	}
}

// TestRunHandedOfManyTerms holds RunHanded against a run, part by part, of what is made.
func TestRunHandedOfManyTerms(t *testing.T) {
	for i, l := range termsToHand() {
		if len(l) > 5 && i%4 > 0 {
			continue
		}
		code, num, steps := plainRunHanded(l, 2000)
		checkRunHanded(t, l, 2000, code, num)
		if isEnd(code) {
			checkRunHanded(t, l, steps, code, num)
			checkRunHanded(t, l, steps-1, impl.RunFuel, 0)
			checkRunHanded(t, l, steps/2, impl.RunFuel, 0)
		}
	}
}

func TestRunHandedByHand(t *testing.T) {
	for _, row := range []struct {
		text      string
		code, num int
	}{
		{"5", impl.RunNumber, 5},
		{"0", impl.RunNumber, 0},
		{"-1000000", impl.RunNumber, -1000000},
		{"\\ v0", impl.RunFunction, 0},
		{"\\ @ 1 2", impl.RunFunction, 0},
		{"+ 1 2", impl.RunNumber, 3},
		{"+ 999999 1", impl.RunNumber, 1000000},
		{"+ 1000000 1", impl.RunStuck, 0},
		{"+ -1000000 -1", impl.RunStuck, 0},
		{"+ \\ v0 1", impl.RunStuck, 0},
		{"+ 1 \\ v0", impl.RunStuck, 0},
		{"@ \\ v0 5", impl.RunNumber, 5},
		{"@ \\ v0 \\ 5", impl.RunFunction, 0},
		{"@ \\ 4 5", impl.RunNumber, 4},
		{"@ 1 2", impl.RunStuck, 0},
		{"@ 1 \\ v0", impl.RunStuck, 0},
		{"@ @ \\ \\ v1 5 6", impl.RunNumber, 5},
		{"@ @ \\ \\ v0 5 6", impl.RunNumber, 6},
		{"@ @ @ \\ \\ \\ + + v2 v2 + v1 + v0 v0 10 200 3000", impl.RunNumber, 6220},
		{"? 0 1 2", impl.RunNumber, 1},
		{"? 9 1 2", impl.RunNumber, 2},
		{"? -1 1 2", impl.RunNumber, 2},
		{"? \\ v0 1 2", impl.RunStuck, 0},
		{"? 0 1 " + endless, impl.RunNumber, 1},
		{"? 1 " + endless + " \\ v0", impl.RunFunction, 0},
		{"? 0 @ 1 2 3", impl.RunStuck, 0},
		{"? 1 @ 1 2 3", impl.RunNumber, 3},
		{"= 5 v0", impl.RunNumber, 5},
		{"= 1 = 2 = 3 v0", impl.RunNumber, 3},
		{"= 1 = 2 = 3 v1", impl.RunNumber, 2},
		{"= 1 = 2 = 3 v2", impl.RunNumber, 1},
		{"= = 1 + v0 v0 + v0 v0", impl.RunNumber, 4},
		{"= @ 1 2 3", impl.RunStuck, 0},
		{"= 7 = \\ v1 = 8 @ v1 0", impl.RunNumber, 7},
		{"= 4 = \\ + v0 v1 @ v0 @ v0 1", impl.RunNumber, 9},
		{"= 9 = \\ \\ + v2 v0 @ @ v0 1 2", impl.RunNumber, 11},
		{"= 3 @ \\ ? v0 7 + v0 v1 v0", impl.RunNumber, 6},
		{"@ @ \\ \\ @ v1 @ v1 v0 \\ + v0 v0 3", impl.RunNumber, 12},
		{endless, impl.RunFuel, 0},
		{"@ 1 " + endless, impl.RunFuel, 0},
	} {
		checkRunHanded(t, termOf(row.text), 2000, row.code, row.num)
	}
}

// endlessLets tells a closed term that goes round for ever, and binds so many on each way round.
func endlessLets(lets int) []impl.Cell {
	self := []impl.Cell{tmVar(lets)}
	return filled("= \\ K @ K K @ v0 v0", slices.Repeat(termOf("= 1"), lets), self, self)
}

// TestRunHandedFuels asks each kind of end with each fuel at the bounds; steps is how many are needed, where it ends.
func TestRunHandedFuels(t *testing.T) {
	for _, row := range []struct {
		l                []impl.Cell
		code, num, steps int
	}{
		{termOf("5"), impl.RunNumber, 5, 11},
		{termOf("\\ v0"), impl.RunFunction, 0, 11},
		{termOf("@ 0 7"), impl.RunStuck, 0, 30},
		{termOf("+ 0 7"), impl.RunNumber, 7, 35},
		{counting(8, 0, "v0"), impl.RunNumber, 0, 920},
		{counting(8, 9, "v0"), impl.RunNumber, 0, 2000},
		{counting(8, 9, "\\ v0"), impl.RunFunction, 0, 2000},
		{counting(16, 1, "+ v0 5"), impl.RunNumber, 5, 2000},
		{counting(16, 1, "+ + v0 \\ 1 1"), impl.RunFuel, 0, 2002},
		{counting(13, 3, "v0"), impl.RunFuel, 0, 2015},
		{counting(16, 1, "@ v0 1"), impl.RunStuck, 0, 1995},
		{termOf(endless), impl.RunFuel, 0, 2001},
		{endlessLets(9), impl.RunFuel, 0, 2001},
		{endlessLets(12), impl.RunLarge, 0, 1986},
		{endlessLets(16), impl.RunLarge, 0, 1963},
	} {
		checkRunHanded(t, row.l, 2000, row.code, row.num)
		checkRunHanded(t, row.l, 0, impl.RunFuel, 0)
		checkRunHanded(t, row.l, 1, impl.RunFuel, 0)
		checkRunHanded(t, row.l, min(row.steps-1, 2000), impl.RunFuel, 0)
		checkRunHanded(t, row.l, min(row.steps, 2000), row.code, row.num)
		for _, fuel := range []int{-1, 2001, 1<<63 - 1, -1 << 63} {
			if code, num, ok := impl.RunHanded(row.l, fuel); code != 0 || num != 0 || ok {
				t.Errorf("RunHanded(%q, %d): %d %d %v", textOf(row.l), fuel, code, num, ok)
			}
		}
	}
}

// TestHandedNeedsMore holds that RunHanded tells of what is made, also where the term itself ends in another way for want of fuel or room.
func TestHandedNeedsMore(t *testing.T) {
	for _, row := range []struct {
		l            []impl.Cell
		code, handed int
	}{
		{counting(40, 0, "v0"), impl.RunNumber, impl.RunFuel},
		{counting(10, 10, "v0"), impl.RunNumber, impl.RunFuel},
		{counting(40, 0, "@ v0 v0"), impl.RunStuck, impl.RunFuel},
		{endlessLets(5), impl.RunLarge, impl.RunFuel},
		{termOf("@ \\ + + + + @ v0 v0 1 1 1 1 \\ + + + + @ v0 v0 1 1 1 1"), impl.RunLarge, impl.RunLarge},
	} {
		code, _, _, _ := impl.RunTerm(row.l, 2000)
		if code != row.code {
			t.Errorf("RunTerm(%q): %d, want %d", textOf(row.l), code, row.code)
		}
		checkRunHanded(t, row.l, 2000, row.handed, 0)
	}
}
