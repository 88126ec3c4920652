package tests

import (
	"fmt"
	"testing"

	"loop.example/g00339/impl"
)

// checkTrace holds all machines of a term, by their texts, against those that steps lead to, and against PlayMachine.
func checkTrace(t *testing.T, text string, want ...string) {
	t.Helper()
	l := termOf(text)
	all := playedMachines(t, l, 100)
	for i := range max(len(all), len(want)) {
		if i >= len(all) || i >= len(want) || fmt.Sprint(all[i]) != want[i] {
			t.Errorf("%q: step %d: of %v, want %v", text, i, all, want)
			return
		}
		m, made, ok := impl.PlayMachine(l, i)
		if !sameMachines(m, all[i]) || made != i || !ok {
			t.Errorf("PlayMachine(%q, %d): %v %d %v", text, i, m, made, ok)
		}
	}
	m, made, ok := impl.PlayMachine(l, 2000)
	if last := len(want) - 1; !sameMachines(m, all[last]) || made != last || !ok {
		t.Errorf("PlayMachine(%q): %v %d %v", text, m, made, ok)
	}
}

// TestTraces tells machines as Done At Env Val Frames Vals Binds.
func TestTraces(t *testing.T) {
	checkTrace(t, "5", "{false 0 -1 -1 [] [] []}", "{true -1 -1 0 [] [{false 5 0 0}] []}")
	checkTrace(t, "\\ v0", "{false 0 -1 -1 [] [] []}", "{true -1 -1 0 [] [{true 0 0 -1}] []}")
	checkTrace(t, "+ -3 4",
		"{false 0 -1 -1 [] [] []}",
		"{false 1 -1 -1 [{5 0 -1 -1}] [] []}",
		"{true -1 -1 0 [{5 0 -1 -1}] [{false -3 0 0}] []}",
		"{false 2 -1 -1 [{5 0 -1 0}] [{false -3 0 0}] []}",
		"{true -1 -1 1 [{5 0 -1 0}] [{false -3 0 0} {false 4 0 0}] []}",
		"{true -1 -1 2 [] [{false -3 0 0} {false 4 0 0} {false 1 0 0}] []}")
	checkTrace(t, "= 5 \\ + v1 v0",
		"{false 0 -1 -1 [] [] []}",
		"{false 1 -1 -1 [{7 0 -1 -1}] [] []}",
		"{true -1 -1 0 [{7 0 -1 -1}] [{false 5 0 0}] []}",
		"{false 2 0 -1 [] [{false 5 0 0}] [{0 -1}]}",
		"{true -1 -1 1 [] [{false 5 0 0} {true 0 2 0}] [{0 -1}]}")
	checkTrace(t, "? 0 1 2",
		"{false 0 -1 -1 [] [] []}",
		"{false 1 -1 -1 [{6 0 -1 -1}] [] []}",
		"{true -1 -1 0 [{6 0 -1 -1}] [{false 0 0 0}] []}",
		"{false 2 -1 -1 [] [{false 0 0 0}] []}",
		"{true -1 -1 1 [] [{false 0 0 0} {false 1 0 0}] []}")
	checkTrace(t, "? 8 + 1 1 2",
		"{false 0 -1 -1 [] [] []}",
		"{false 1 -1 -1 [{6 0 -1 -1}] [] []}",
		"{true -1 -1 0 [{6 0 -1 -1}] [{false 8 0 0}] []}",
		"{false 5 -1 -1 [] [{false 8 0 0}] []}",
		"{true -1 -1 1 [] [{false 8 0 0} {false 2 0 0}] []}")
	checkTrace(t, "? \\ v0 1 2",
		"{false 0 -1 -1 [] [] []}",
		"{false 1 -1 -1 [{6 0 -1 -1}] [] []}",
		"{true -1 -1 0 [{6 0 -1 -1}] [{true 0 1 -1}] []}")
	checkTrace(t, "@ \\ v0 7",
		"{false 0 -1 -1 [] [] []}",
		"{false 1 -1 -1 [{4 0 -1 -1}] [] []}",
		"{true -1 -1 0 [{4 0 -1 -1}] [{true 0 1 -1}] []}",
		"{false 3 -1 -1 [{4 0 -1 0}] [{true 0 1 -1}] []}",
		"{true -1 -1 1 [{4 0 -1 0}] [{true 0 1 -1} {false 7 0 0}] []}",
		"{false 2 0 -1 [] [{true 0 1 -1} {false 7 0 0}] [{1 -1}]}",
		"{true -1 -1 1 [] [{true 0 1 -1} {false 7 0 0}] [{1 -1}]}")
	checkTrace(t, "@ 3 \\ v0",
		"{false 0 -1 -1 [] [] []}",
		"{false 1 -1 -1 [{4 0 -1 -1}] [] []}",
		"{true -1 -1 0 [{4 0 -1 -1}] [{false 3 0 0}] []}",
		"{false 2 -1 -1 [{4 0 -1 0}] [{false 3 0 0}] []}",
		"{true -1 -1 1 [{4 0 -1 0}] [{false 3 0 0} {true 0 2 -1}] []}")
}

// TestTraceOfFrames has frames within frames, functions with bindings around them, and a part that is left ahead of its frame.
func TestTraceOfFrames(t *testing.T) {
	checkTrace(t, "= 1 @ \\ + v0 v1 ? v0 2 3",
		"{false 0 -1 -1 [] [] []}",
		"{false 1 -1 -1 [{7 0 -1 -1}] [] []}",
		"{true -1 -1 0 [{7 0 -1 -1}] [{false 1 0 0}] []}",
		"{false 2 0 -1 [] [{false 1 0 0}] [{0 -1}]}",
		"{false 3 0 -1 [{4 2 0 -1}] [{false 1 0 0}] [{0 -1}]}",
		"{true -1 -1 1 [{4 2 0 -1}] [{false 1 0 0} {true 0 3 0}] [{0 -1}]}",
		"{false 7 0 -1 [{4 2 0 1}] [{false 1 0 0} {true 0 3 0}] [{0 -1}]}",
		"{false 8 0 -1 [{4 2 0 1} {6 7 0 -1}] [{false 1 0 0} {true 0 3 0}] [{0 -1}]}",
		"{true -1 -1 0 [{4 2 0 1} {6 7 0 -1}] [{false 1 0 0} {true 0 3 0}] [{0 -1}]}",
		"{false 10 0 -1 [{4 2 0 1}] [{false 1 0 0} {true 0 3 0}] [{0 -1}]}",
		"{true -1 -1 2 [{4 2 0 1}] [{false 1 0 0} {true 0 3 0} {false 3 0 0}] [{0 -1}]}",
		"{false 4 1 -1 [] [{false 1 0 0} {true 0 3 0} {false 3 0 0}] [{0 -1} {2 0}]}",
		"{false 5 1 -1 [{5 4 1 -1}] [{false 1 0 0} {true 0 3 0} {false 3 0 0}] [{0 -1} {2 0}]}",
		"{true -1 -1 2 [{5 4 1 -1}] [{false 1 0 0} {true 0 3 0} {false 3 0 0}] [{0 -1} {2 0}]}",
		"{false 6 1 -1 [{5 4 1 2}] [{false 1 0 0} {true 0 3 0} {false 3 0 0}] [{0 -1} {2 0}]}",
		"{true -1 -1 0 [{5 4 1 2}] [{false 1 0 0} {true 0 3 0} {false 3 0 0}] [{0 -1} {2 0}]}",
		"{true -1 -1 3 [] [{false 1 0 0} {true 0 3 0} {false 3 0 0} {false 4 0 0}] [{0 -1} {2 0}]}")
	checkTrace(t, "= 1 + = 2 v1 v0",
		"{false 0 -1 -1 [] [] []}",
		"{false 1 -1 -1 [{7 0 -1 -1}] [] []}",
		"{true -1 -1 0 [{7 0 -1 -1}] [{false 1 0 0}] []}",
		"{false 2 0 -1 [] [{false 1 0 0}] [{0 -1}]}",
		"{false 3 0 -1 [{5 2 0 -1}] [{false 1 0 0}] [{0 -1}]}",
		"{false 4 0 -1 [{5 2 0 -1} {7 3 0 -1}] [{false 1 0 0}] [{0 -1}]}",
		"{true -1 -1 1 [{5 2 0 -1} {7 3 0 -1}] [{false 1 0 0} {false 2 0 0}] [{0 -1}]}",
		"{false 5 1 -1 [{5 2 0 -1}] [{false 1 0 0} {false 2 0 0}] [{0 -1} {1 0}]}",
		"{true -1 -1 0 [{5 2 0 -1}] [{false 1 0 0} {false 2 0 0}] [{0 -1} {1 0}]}",
		"{false 6 0 -1 [{5 2 0 0}] [{false 1 0 0} {false 2 0 0}] [{0 -1} {1 0}]}",
		"{true -1 -1 0 [{5 2 0 0}] [{false 1 0 0} {false 2 0 0}] [{0 -1} {1 0}]}",
		"{true -1 -1 2 [] [{false 1 0 0} {false 2 0 0} {false 2 0 0}] [{0 -1} {1 0}]}")
}

// checkStep asks for no step where want is empty.
func checkStep(t *testing.T, text string, m impl.Machine, want string) {
	t.Helper()
	if !impl.GoodMachine(termOf(text), m) {
		t.Errorf("%q: no good machine: %v", text, m)
	}
	got, ok := impl.StepMachine(termOf(text), m)
	if want == "" {
		if ok || !isZeroMachine(got) {
			t.Errorf("StepMachine(%q, %v): %v %v", text, m, got, ok)
		}
	} else if fmt.Sprint(got) != want || !ok {
		t.Errorf("StepMachine(%q, %v): %v %v, want %s", text, m, got, ok, want)
	}
}

func come(val int, vals []impl.Val, frames ...impl.Frame) impl.Machine {
	return impl.Machine{Done: true, At: -1, Env: -1, Val: val, Frames: frames, Vals: vals}
}

func numVals(nums ...int) []impl.Val {
	var out []impl.Val
	for _, n := range nums {
		out = append(out, impl.Val{Num: n})
	}
	return out
}

func frameOf(kind, val int) impl.Frame {
	return impl.Frame{Kind: kind, At: 0, Env: -1, Val: val}
}

func TestStepsOfSums(t *testing.T) {
	for _, row := range []struct{ a, b int }{{1, 2}, {999999, 1}, {1000000, 0}, {1000000, 1}, {1000000, 1000000}, {-999999, -1}, {-1000000, 0}, {-1000000, -1}, {-1000000, -1000000}, {-1000000, 1000000}} {
		want := fmt.Sprintf("{true -1 -1 2 [] [{false %d 0 0} {false %d 0 0} {false %d 0 0}] []}", row.a, row.b, row.a+row.b)
		if row.a+row.b > 1000000 || row.a+row.b < -1000000 {
			want = ""
		}
		checkStep(t, "+ 1 2", come(1, numVals(row.a, row.b), frameOf(impl.TmAdd, 0)), want)
	}
	checkStep(t, "+ 1 2", come(0, numVals(4), frameOf(impl.TmAdd, 0)), "{true -1 -1 1 [] [{false 4 0 0} {false 8 0 0}] []}")
	fun := impl.Val{Fun: true, At: 1, Env: -1}
	vals := []impl.Val{fun, {Num: 3}}
	checkStep(t, "+ \\ v0 2", come(1, vals, frameOf(impl.TmAdd, 0)), "")
	checkStep(t, "+ \\ v0 2", come(0, vals, frameOf(impl.TmAdd, 1)), "")
	checkStep(t, "+ \\ v0 2", come(0, vals, frameOf(impl.TmAdd, 0)), "")
	checkStep(t, "+ \\ v0 2", come(0, vals, frameOf(impl.TmAdd, -1)), "{false 3 -1 -1 [{5 0 -1 0}] [{true 0 1 -1} {false 3 0 0}] []}")
}

func TestStepsOfFrames(t *testing.T) {
	fun := impl.Val{Fun: true, At: 1, Env: -1}
	vals := []impl.Val{fun, {Num: 0}, {Num: 6}}
	told := "[{true 0 1 -1} {false 0 0 0} {false 6 0 0}]"
	checkStep(t, "? \\ v0 8 9", come(0, vals, frameOf(impl.TmIf, -1)), "")
	checkStep(t, "? \\ v0 8 9", come(1, vals, frameOf(impl.TmIf, -1)), "{false 3 -1 -1 [] "+told+" []}")
	checkStep(t, "? \\ v0 8 9", come(2, vals, frameOf(impl.TmIf, -1)), "{false 4 -1 -1 [] "+told+" []}")
	checkStep(t, "@ \\ v0 8", come(0, vals, frameOf(impl.TmApp, -1)), "{false 3 -1 -1 [{4 0 -1 0}] "+told+" []}")
	checkStep(t, "@ \\ v0 8", come(2, vals, frameOf(impl.TmApp, -1)), "{false 3 -1 -1 [{4 0 -1 2}] "+told+" []}")
	checkStep(t, "@ \\ v0 8", come(2, vals, frameOf(impl.TmApp, 0)), "{false 2 0 -1 [] "+told+" [{2 -1}]}")
	checkStep(t, "@ \\ v0 8", come(0, vals, frameOf(impl.TmApp, 0)), "{false 2 0 -1 [] "+told+" [{0 -1}]}")
	checkStep(t, "@ \\ v0 8", come(0, vals, frameOf(impl.TmApp, 1)), "")
	checkStep(t, "@ \\ v0 8", come(2, vals, frameOf(impl.TmApp, 1)), "")
	checkStep(t, "= \\ v0 8", come(0, vals, frameOf(impl.TmLet, -1)), "{false 3 0 -1 [] "+told+" [{0 -1}]}")
	checkStep(t, "= \\ v0 8", come(2, vals, frameOf(impl.TmLet, -1)), "{false 3 0 -1 [] "+told+" [{2 -1}]}")
	checkStep(t, "= \\ v0 8", come(2, vals), "")
	checkStep(t, "= \\ v0 8", come(0, vals), "")
	checkStep(t, "+ \\ v0 8", come(2, vals, frameOf(impl.TmAdd, 1), frameOf(impl.TmAdd, -1)), "{false 3 -1 -1 [{5 0 -1 1} {5 0 -1 2}] "+told+" []}")
	checkStep(t, "+ \\ v0 8", come(2, vals, frameOf(impl.TmAdd, -1), frameOf(impl.TmAdd, 1)), "{true -1 -1 3 [{5 0 -1 -1}] [{true 0 1 -1} {false 0 0 0} {false 6 0 0} {false 6 0 0}] []}")
}

// TestStepsOfVariables has a binding farther up that is not the one told just ahead of it.
func TestStepsOfVariables(t *testing.T) {
	vals := numVals(10, 11, 12, 13)
	binds := []impl.Bind{{Val: 2, Up: -1}, {Val: 0, Up: -1}, {Val: 3, Up: 0}, {Val: 1, Up: 0}, {Val: 1, Up: 3}, {Val: 1, Up: 2}}
	for text, rows := range map[string][][2]int{
		"\\ v0":       {{0, 2}, {1, 0}},
		"\\ \\ v0":    {{2, 3}, {3, 1}},
		"\\ \\ v1":    {{2, 2}, {3, 2}},
		"\\ \\ \\ v2": {{4, 2}, {5, 2}},
		"\\ \\ \\ v1": {{4, 1}, {5, 3}},
	} {
		at := len(termOf(text)) - 1
		for _, row := range rows {
			m := impl.Machine{At: at, Env: row[0], Val: -1, Vals: vals, Binds: binds}
			want := m
			want.Done, want.At, want.Env, want.Val = true, -1, -1, row[1]
			checkStep(t, text, m, fmt.Sprint(want))
		}
	}
}

func TestStart(t *testing.T) {
	for _, text := range []string{"5", "\\ v0", "+ 1 2", "@ 1 2", endless} {
		m, ok := impl.StartMachine(termOf(text))
		if fmt.Sprint(m) != "{false 0 -1 -1 [] [] []}" || !ok {
			t.Error(text, m, ok)
		}
		m, made, ok := impl.PlayMachine(termOf(text), 0)
		if fmt.Sprint(m) != "{false 0 -1 -1 [] [] []}" || made != 0 || !ok {
			t.Error(text, m, made, ok)
		}
	}
}

// TestPlayOfManyTerms holds that PlayMachine does what StepMachine does, and RunTerm tells of it.
func TestPlayOfManyTerms(t *testing.T) {
	for i, l := range termsToRun() {
		if i%20 > 0 {
			continue
		}
		all := playedMachines(t, l, 60)
		for steps, want := range all {
			m, made, ok := impl.PlayMachine(l, steps)
			if !sameMachines(m, want) || made != steps || !ok {
				t.Errorf("PlayMachine(%q, %d): %v %d %v, want %v", textOf(l), steps, m, made, ok, want)
			}
		}
		if len(all) <= 60 {
			_, _, steps, _ := impl.RunTerm(l, 2000)
			if steps != len(all)-1 {
				t.Errorf("RunTerm(%q): %d steps, want %d", textOf(l), steps, len(all)-1)
			}
		}
	}
}
