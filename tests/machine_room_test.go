package tests

import (
	"slices"
	"testing"

	"loop.example/g00339/impl"
)

func nums(count int) []impl.Val {
	return slices.Repeat([]impl.Val{{Num: 1}}, count)
}

func frames(kind, count int) []impl.Frame {
	return slices.Repeat([]impl.Frame{frameOf(kind, -1)}, count)
}

func binds(count int) []impl.Bind {
	return slices.Repeat([]impl.Bind{{Val: 0, Up: -1}}, count)
}

// checkRoom holds whether a machine is good, and whether it steps.
func checkRoom(t *testing.T, what, text string, m impl.Machine, good, steps bool) {
	t.Helper()
	is := impl.GoodMachine(termOf(text), m)
	got, ok := impl.StepMachine(termOf(text), m)
	if is != good || ok != steps || !ok && !isZeroMachine(got) || ok && !impl.GoodMachine(termOf(text), got) {
		t.Errorf("%s: good %v, steps %v, want %v %v", what, is, ok, good, steps)
	}
}

func TestRoomOfValues(t *testing.T) {
	for count := 498; count <= 502; count++ {
		good, room := count <= 500, count < 500
		at := impl.Machine{At: 1, Env: -1, Val: -1, Vals: nums(count)}
		checkRoom(t, "a number", "+ 1 \\ v0", at, good, room)
		at.At = 2
		checkRoom(t, "a function", "+ 1 \\ v0", at, good, room)
		at.At = 0
		checkRoom(t, "a frame", "+ 1 \\ v0", at, good, good)
		at.Binds, at.Env, at.At = binds(1), 0, 3
		checkRoom(t, "a variable", "+ 1 \\ v0", at, good, good)
		checkRoom(t, "a sum", "+ 1 2", come(1, nums(count), frameOf(impl.TmAdd, 0)), good, room)
		checkRoom(t, "the second part", "+ 1 2", come(1, nums(count), frameOf(impl.TmAdd, -1)), good, good)
		checkRoom(t, "a choice", "? 1 2 3", come(1, nums(count), frameOf(impl.TmIf, -1)), good, good)
		checkRoom(t, "a binding", "= 1 2", come(1, nums(count), frameOf(impl.TmLet, -1)), good, good)
	}
}

func TestRoomOfFrames(t *testing.T) {
	for count := 498; count <= 502; count++ {
		good, room := count <= 500, count < 500
		for kind, text := range map[int]string{impl.TmApp: "@ 1 2", impl.TmAdd: "+ 1 2", impl.TmIf: "? 1 2 3", impl.TmLet: "= 1 2"} {
			m := impl.Machine{At: 0, Env: -1, Val: -1, Frames: frames(kind, count)}
			checkRoom(t, "a frame of "+text, text, m, good, room)
			m.At = 1
			checkRoom(t, "a number in "+text, text, m, good, good)
			checkRoom(t, "it came to "+text, text, come(0, nums(1), frames(kind, count)...), good, good)
		}
	}
}

func TestRoomOfBindings(t *testing.T) {
	for count := 498; count <= 502; count++ {
		good, room := count <= 500, count < 500
		let := come(0, nums(1), frameOf(impl.TmLet, -1))
		let.Binds = binds(count)
		checkRoom(t, "TmLet", "= 1 2", let, good, room)
		call := come(0, append(nums(1), impl.Val{Fun: true, At: 1, Env: -1}), frameOf(impl.TmApp, 1))
		call.Binds = binds(count)
		checkRoom(t, "TmApp", "@ \\ v0 2", call, good, room)
		call.Frames[0].Val = -1
		checkRoom(t, "the second part", "@ \\ v0 2", call, good, good)
		call.Frames[0].Val = 0
		checkRoom(t, "a call of a number", "@ \\ v0 2", call, good, false)
		deep := impl.Machine{At: 0, Env: -1, Val: -1, Vals: nums(1), Binds: binds(count)}
		checkRoom(t, "a number", "5", deep, good, good)
	}
}

// manyValues tells a term that keeps just 429 values and so many more, and then does what is told behind: v0 is 1, v7 a function.
func manyValues(more int, behind string) []impl.Cell {
	out := slices.Concat(termOf("= \\"), slices.Repeat(termOf("? 1 1"), 60), termOf("v0"))
	for call := range 7 {
		out = append(out, tmOf(impl.TmLet), tmOf(impl.TmApp), tmVar(call), tmNum(1))
	}
	return slices.Concat(out, slices.Repeat(termOf("? 1 1"), more), termOf(behind))
}

// keptBy tells the machine in the end, and how the run of a term ended.
func keptBy(t *testing.T, l []impl.Cell) (impl.Machine, int, int) {
	t.Helper()
	code, num, steps, ok := impl.RunTerm(l, 2000)
	m, made, is := impl.PlayMachine(l, 2000)
	if !ok || !is || made != steps || !impl.GoodMachine(l, m) {
		t.Errorf("%q: %v %v, %d of %d steps", textOf(l), ok, is, made, steps)
	}
	if same, _, _ := impl.PlayMachine(l, steps); !sameMachines(m, same) {
		t.Errorf("%q: what could not be done left %v, was %v", textOf(l), m, same)
	}
	checkRun(t, l, steps-1, impl.RunFuel, 0, steps-1)
	checkRun(t, l, steps, code, num, steps)
	return m, code, num
}

func TestRunsOfManyValues(t *testing.T) {
	for _, row := range []struct {
		more            int
		behind          string
		vals, code, num int
	}{
		{70, "7", 499, impl.RunNumber, 7},
		{71, "7", 500, impl.RunNumber, 7},
		{72, "7", 500, impl.RunLarge, 0},
		{71, "\\ v0", 500, impl.RunFunction, 0},
		{72, "\\ v0", 500, impl.RunLarge, 0},
		{72, "v0", 500, impl.RunNumber, 1},
		{73, "v0", 500, impl.RunLarge, 0},
		{71, "+ v0 v0", 500, impl.RunNumber, 2},
		{72, "+ v0 v0", 500, impl.RunLarge, 0},
		{71, "+ v0 1000000", 500, impl.RunStuck, 0},
		{71, "+ v0 999999", 500, impl.RunLarge, 0},
		{72, "+ v0 v7", 500, impl.RunStuck, 0},
		{72, "+ v7 v0", 500, impl.RunStuck, 0},
		{72, "@ v0 v0", 500, impl.RunStuck, 0},
		{72, "? v7 v0 v0", 500, impl.RunStuck, 0},
		{72, "@ v7 v0", 500, impl.RunLarge, 0},
		{72, "= v0 v0", 500, impl.RunNumber, 1},
	} {
		m, code, num := keptBy(t, manyValues(row.more, row.behind))
		if len(m.Vals) != row.vals || code != row.code || num != row.num {
			t.Errorf("%d more, then %q: %d values, %d %d, want %v", row.more, row.behind, len(m.Vals), code, num, row)
		}
	}
}

// manyBindings tells a term that keeps just 409 bindings and so many more, and then does what is told behind: v0 is 1.
func manyBindings(more int, behind string) []impl.Cell {
	out := slices.Concat(termOf("= \\"), slices.Repeat(termOf("= v0"), 100), termOf("v0"))
	for call := range 4 {
		out = append(out, tmOf(impl.TmLet), tmOf(impl.TmApp), tmVar(call), tmNum(1))
	}
	return slices.Concat(out, slices.Repeat(termOf("= v0"), more), termOf(behind))
}

func TestRunsOfManyBindings(t *testing.T) {
	for _, row := range []struct {
		more             int
		behind           string
		binds, code, num int
	}{
		{90, "v0", 499, impl.RunNumber, 1},
		{91, "v0", 500, impl.RunNumber, 1},
		{92, "v0", 500, impl.RunLarge, 0},
		{90, "@ \\ v0 5", 500, impl.RunNumber, 5},
		{91, "@ \\ v0 5", 500, impl.RunLarge, 0},
		{91, "@ v0 5", 500, impl.RunStuck, 0},
		{91, "= 5 v0", 500, impl.RunLarge, 0},
		{91, "= @ 1 1 v0", 500, impl.RunStuck, 0},
		{91, "+ v0 v0", 500, impl.RunNumber, 2},
		{91, "\\ v0", 500, impl.RunFunction, 0},
	} {
		m, code, num := keptBy(t, manyBindings(row.more, row.behind))
		if len(m.Binds) != row.binds || code != row.code || num != row.num {
			t.Errorf("%d more, then %q: %d bindings, %d %d, want %v", row.more, row.behind, len(m.Binds), code, num, row)
		}
	}
}

// manyFrames tells a term that has 401 frames at once, and so many more around these: each function asks 80 times of what the one that it was given comes to.
func manyFrames(more int) []impl.Cell {
	out := termOf("= 0")
	out = slices.Concat(out, termOf("= \\ \\"), slices.Repeat(termOf("?"), 80), termOf("@ v1 0"), slices.Repeat(termOf("v0"), 160))
	out = append(out, termOf("= @ v0 \\ 0 = @ v1 v0 = @ v2 v0 = @ v3 v0 = @ v4 v0")...)
	return slices.Concat(out, slices.Repeat(termOf("?"), more), termOf("@ v0 0"), slices.Repeat(termOf("v6"), 2*more))
}

func TestRunsOfManyFrames(t *testing.T) {
	for _, more := range []int{0, 97, 98, 99, 100, 101} {
		l := manyFrames(more)
		m, code, num := keptBy(t, l)
		most := 0
		for steps := 0; steps < 700; steps++ {
			at, _, _ := impl.PlayMachine(l, steps)
			most = max(most, len(at.Frames))
		}
		if want := min(500, 401+more); most != want {
			t.Errorf("%d more: %d frames, want %d", more, most, want)
		}
		if more <= 99 && (code != impl.RunNumber || num != 0 || len(m.Frames) != 0) || more > 99 && (code != impl.RunLarge || num != 0 || len(m.Frames) != 500) {
			t.Errorf("%d more: %d %d, %d frames", more, code, num, len(m.Frames))
		}
	}
}

// TestRunsThatGrow holds that what grows without end is told to be too large, or to need more fuel, and is played as far.
func TestRunsThatGrow(t *testing.T) {
	for _, text := range []string{
		"@ \\ + 1 @ v0 v0 \\ + 1 @ v0 v0",
		"@ \\ + + + + @ v0 v0 1 1 1 1 \\ + + + + @ v0 v0 1 1 1 1",
		"@ \\ = v0 = v0 = v0 = v0 = v0 = v0 = v0 = v0 @ v0 v0 \\ = v0 = v0 = v0 = v0 = v0 = v0 = v0 = v0 @ v0 v0",
		"@ \\ ? 1 1 ? 1 1 ? 1 1 ? 1 1 ? 1 1 ? 1 1 @ v0 v0 \\ ? 1 1 ? 1 1 ? 1 1 ? 1 1 ? 1 1 ? 1 1 @ v0 v0",
		"@ \\ @ @ v0 v0 v0 \\ @ @ v0 v0 v0",
		endless,
	} {
		l := termOf(text)
		code, _, steps := plainRunOf(l, 2000)
		checkRun(t, l, 2000, code, 0, steps)
		if code != impl.RunLarge && code != impl.RunFuel {
			t.Errorf("%q: %d", text, code)
		}
		keptBy(t, l)
	}
}
