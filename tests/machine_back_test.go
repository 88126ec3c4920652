package tests

import (
	"fmt"
	"slices"
	"testing"

	"loop.example/g00339/impl"
)

// checkBack runs a term, and asks for none where want is empty.
func checkBack(t *testing.T, text string, want string) {
	t.Helper()
	l := termOf(text)
	m, _, ok := impl.PlayMachine(l, 2000)
	got, is := impl.ReadBack(l, m)
	sameTerm(t, fmt.Sprintf("ReadBack of %q", text), got, ok && is, termOf(want), want != "")
}

func TestBackByHand(t *testing.T) {
	checkBack(t, "5", "5")
	checkBack(t, "+ -3 1", "-2")
	checkBack(t, "\\ v0", "\\ v0")
	checkBack(t, "\\ @ 1 + 2 3", "\\ @ 1 + 2 3")
	checkBack(t, "\\ \\ @ v1 v0", "\\ \\ @ v1 v0")
	checkBack(t, "= 5 \\ + v1 v0", "\\ + 5 v0")
	checkBack(t, "= 5 \\ v0", "\\ v0")
	checkBack(t, "= 5 \\ \\ + v2 + v1 v0", "\\ \\ + 5 + v1 v0")
	checkBack(t, "= 1 = 2 = 3 \\ + v1 + v2 + v3 v0", "\\ + 3 + 2 + 1 v0")
	checkBack(t, "@ \\ \\ + v1 v1 7", "\\ + 7 7")
	checkBack(t, "= \\ v0 \\ @ v1 v0", "\\ @ \\ v0 v0")
	checkBack(t, "= 5 = \\ + v0 v1 \\ @ v1 + v2 v0", "\\ @ \\ + v0 5 + 5 v0")
	checkBack(t, "= 5 = \\ v1 = \\ @ v1 v2 \\ @ v1 v0", "\\ @ \\ @ \\ 5 5 v0")
	checkBack(t, "= 5 \\ = v1 + v0 v2", "\\ = 5 + v0 5")
	checkBack(t, "= 5 \\ = v0 + v0 v1", "\\ = v0 + v0 v1")
	checkBack(t, "= 5 \\ ? v1 v0 \\ v2", "\\ ? 5 v0 \\ 5")
	checkBack(t, "= 5 \\ @ v1 v1", "\\ @ 5 5")
	checkBack(t, "@ @ \\ \\ \\ @ @ v2 v1 v0 \\ v0 \\ \\ v1", "\\ @ @ \\ v0 \\ \\ v1 v0")
	checkBack(t, "@ @ \\ \\ + v1 v0 1 2", "3")
}

// TestBackOfMachinesThatAreNotOver: only a machine that is Done without frames is read back.
func TestBackOfMachinesThatAreNotOver(t *testing.T) {
	for _, text := range append(termsToSpoil, "@ 1 2", "? \\ v0 1 2", "+ 1000000 1", endless) {
		l := termOf(text)
		for _, m := range playedMachines(t, l, 60) {
			over := m.Done && len(m.Frames) == 0
			got, ok := impl.ReadBack(l, m)
			if ok != over || !ok && len(got) > 0 {
				t.Errorf("ReadBack(%q, %v): %q %v", text, m, textOf(got), ok)
			}
		}
	}
	l := termOf("+ 1 2")
	if got, ok := impl.ReadBack(l, come(0, numVals(3), frameOf(impl.TmAdd, -1))); len(got) > 0 || ok {
		t.Error("with a frame:", got, ok)
	}
	got, ok := impl.ReadBack(l, come(0, numVals(3, 4)))
	sameTerm(t, "without", got, ok, termOf("3"), true)
	got, ok = impl.ReadBack(l, come(1, numVals(3, 4)))
	sameTerm(t, "the other one", got, ok, termOf("4"), true)
	for _, m := range []impl.Machine{{}, {Env: -1, Val: -1}, {Done: true, At: -1, Env: -1}, {Done: true, At: -1, Env: -1, Val: -1}} {
		if got, ok := impl.ReadBack(l, m); len(got) > 0 || ok {
			t.Errorf("%v: %v %v", m, got, ok)
		}
	}
}

// TestBackOfMadeMachines reads back what no run comes to: bindings shared by many, and ones that are not of the nearest value.
func TestBackOfMadeMachines(t *testing.T) {
	l := termOf("= 1 = 2 \\ + v1 + v2 v0")
	m := come(3, []impl.Val{{Num: 8}, {Num: 9}, {Fun: true, At: 4, Env: 1}, {Fun: true, At: 4, Env: 2}})
	m.Binds = []impl.Bind{{Val: 0, Up: -1}, {Val: 1, Up: 0}, {Val: 2, Up: 0}}
	got, ok := impl.ReadBack(l, m)
	sameTerm(t, "a function within", got, ok, termOf("\\ + \\ + 9 + 8 v0 + 8 v0"), true)
	m.Val = 2
	got, ok = impl.ReadBack(l, m)
	sameTerm(t, "the other one", got, ok, termOf("\\ + 9 + 8 v0"), true)
	m.Val = 0
	got, ok = impl.ReadBack(l, m)
	sameTerm(t, "a number", got, ok, termOf("8"), true)
}

// ofSize tells a function of just so many cells without variables.
func ofSize(cells int) []impl.Cell {
	if cells%2 == 0 {
		return append(lams(1), stuckTerm(cells-1)...)
	}
	return append(lams(2), stuckTerm(cells-2)...)
}

func TestBackRoom(t *testing.T) {
	for _, row := range []struct {
		inner string
		size  int
		ok    bool
	}{
		{"\\ + v1 v1", 298, true}, {"\\ + v1 v1", 299, true}, {"\\ + v1 v1", 300, false},
		{"\\ \\ + v2 v2", 298, true}, {"\\ \\ + v2 v2", 299, false},
		{"\\ + v1 + v1 v1", 199, true}, {"\\ + v1 + v1 v1", 200, false},
		{"\\ v1", 500, true}, {"\\ v0", 590, true}, {"\\ + v1 v0", 590, true},
	} {
		l := slices.Concat(termOf("="), ofSize(row.size), termOf(row.inner))
		m, _, ok := impl.PlayMachine(l, 100)
		if !ok || !m.Done {
			t.Fatal(row, m, ok)
		}
		var want []impl.Cell
		inner := termOf(row.inner)
		binders := 0
		for _, c := range inner {
			if c.Kind == impl.TmLam {
				binders++
			}
			if c == tmVar(binders) {
				want = append(want, ofSize(row.size)...)
			} else {
				want = append(want, c)
			}
		}
		if (len(want) <= 600) != row.ok {
			t.Fatal("the test counts wrongly:", row, len(want))
		}
		if !row.ok {
			want = nil
		}
		got, is := impl.ReadBack(l, m)
		sameTerm(t, fmt.Sprint(row), got, is, want, row.ok)
	}
}

// TestBackOfVastValues: each value has the one ahead of it twice, so that few of them are too large; what is not asked for may be.
func TestBackOfVastValues(t *testing.T) {
	for _, count := range []int{1, 5, 6, 7, 8, 9, 20, 60} {
		for _, row := range []struct {
			part, last string
			most       int
		}{{"= \\ @ v1 v1", "v0", 7}, {"= \\ @ v1 v1", "\\ v1", 7}, {"= \\ @ v1 v1", "\\ v0", 60}, {"= \\ \\ @ v2 v2", "v0", 6}} {
			l := slices.Concat(termOf("= \\ v0"), slices.Repeat(termOf(row.part), count), termOf(row.last))
			code, v, steps := plainRunOf(l, 2000)
			checkRun(t, l, 2000, code, 0, steps)
			m, _, _ := impl.PlayMachine(l, 2000)
			got, ok := impl.ReadBack(l, m)
			want, is := plainBack(v)
			sameTerm(t, textOf(l), got, ok, want, is)
			if is != (count <= row.most) {
				t.Error(count, row, is)
			}
		}
	}
}
