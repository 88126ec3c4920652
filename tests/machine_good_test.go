package tests

import (
	"maps"
	"slices"
	"testing"

	"loop.example/g00339/impl"
)

// Terms whose machines come by each kind of part, frame and value, with bindings farther up.
var termsToSpoil = []string{
	"5", "\\ v0", "+ 1 2", "? 0 1 2", "= 5 \\ + v1 v0", "@ \\ + v0 v0 + 1 2",
	"= 1 @ \\ + v0 v1 ? v0 2 3", "= 1 + = 2 v1 v0", "@ @ \\ \\ + v1 v0 \\ v0 7",
	"= \\ \\ v1 = @ v0 3 @ v0 4", "= 1 = 2 = \\ \\ + v3 v1 @ @ v0 v1 v2", "? @ \\ v0 0 \\ 1 = 2 \\ v1",
}

// TestMachinesOfStepsAreGood holds it of every machine that steps lead to, and that none of them is of a term that lacks its places.
func TestMachinesOfStepsAreGood(t *testing.T) {
	for i, l := range termsToRun() {
		if i%20 > 0 {
			continue
		}
		for _, m := range playedMachines(t, l, 60) {
			if !impl.GoodMachine(l, m) || !plainGood(l, m) {
				t.Errorf("%q: not good: %v", textOf(l), m)
			}
		}
	}
}

// spoilings tells values for a field that is held against so many places, values, bindings.
func spoilings(l []impl.Cell, m impl.Machine, now int) []int {
	out := []int{-1000001, -1000000, 1000000, 1000001, 1<<63 - 1, -1 << 63, now - 1, now + 1, len(l), len(m.Vals), len(m.Binds)}
	for n := -2; n < 12; n++ {
		out = append(out, n)
	}
	slices.Sort(out)
	return slices.Compact(out)
}

// TestSpoiltMachines changes one field at a time of machines that steps lead to.
func TestSpoiltMachines(t *testing.T) {
	wrong, good := 0, 0
	for _, text := range termsToSpoil {
		l := termOf(text)
		for _, m := range playedMachines(t, l, 60) {
			spoilt := cloneMachine(m)
			fields := fieldsOf(&spoilt)
			for _, name := range slices.Sorted(maps.Keys(fields)) {
				field := fields[name]
				was := *field
				for _, n := range spoilings(l, m, was) {
					*field = n
					want := plainGood(l, spoilt)
					if got := impl.GoodMachine(l, spoilt); got != want {
						t.Errorf("%q, %s %d: told %v, want %v: %v", text, name, n, got, want, spoilt)
					}
					if want {
						good++
					} else {
						wrong++
						checkRefused(t, l, spoilt)
					}
				}
				*field = was
			}
			spoilt.Done = !spoilt.Done
			if impl.GoodMachine(l, spoilt) {
				t.Errorf("%q, Done: told good: %v", text, spoilt)
			}
			spoilt.Done = !spoilt.Done
			for i := range spoilt.Vals {
				spoilt.Vals[i].Fun = !spoilt.Vals[i].Fun
				if got, want := impl.GoodMachine(l, spoilt), plainGood(l, spoilt); got != want {
					t.Errorf("%q, value %d Fun: told %v, want %v: %v", text, i, got, want, spoilt)
				}
				spoilt.Vals[i].Fun = !spoilt.Vals[i].Fun
			}
			if !sameMachines(m, spoilt) {
				t.Fatal("the test left a change:", m, spoilt)
			}
		}
	}
	if wrong < 20000 || good < 3000 {
		t.Error("few of a kind:", wrong, good)
	}
}

// checkRefused holds that a machine that is not good gets the zero answers.
func checkRefused(t *testing.T, l []impl.Cell, m impl.Machine) {
	t.Helper()
	kept := cloneMachine(m)
	next, stepped := impl.StepMachine(l, m)
	back, read := impl.ReadBack(l, m)
	if stepped || read || !isZeroMachine(next) || len(back) > 0 {
		t.Errorf("%q, %v: %v %v, %v %v", textOf(l), m, next, stepped, back, read)
	}
	if !sameMachines(m, kept) {
		t.Errorf("changed: %v, was %v", m, kept)
	}
}

func checkGood(t *testing.T, what, text string, m impl.Machine, want bool) {
	t.Helper()
	if got := impl.GoodMachine(termOf(text), m); got != want {
		t.Errorf("%s: told %v: %v", what, got, m)
	}
}

// TestGoodByHand changes one field at a time of a machine with all kinds of fields: = \ + v0 1 @ v0 ? 2 3 4.
func TestGoodByHand(t *testing.T) {
	const text = "= \\ + v0 1 @ v0 ? 2 3 4"
	changed := func(change func(m *impl.Machine)) impl.Machine {
		m := impl.Machine{
			At: 7, Env: 0, Val: -1,
			Frames: []impl.Frame{{Kind: impl.TmApp, At: 5, Env: 0, Val: 0}},
			Vals:   []impl.Val{{Fun: true, At: 1, Env: -1}, {Num: 2}},
			Binds:  []impl.Bind{{Val: 0, Up: -1}, {Val: 1, Up: -1}, {Val: 1, Up: 1}},
		}
		change(&m)
		return m
	}
	for what, change := range map[string]func(m *impl.Machine){
		"as it is":               func(m *impl.Machine) {},
		"another binding":        func(m *impl.Machine) { m.Env = 1 },
		"another part":           func(m *impl.Machine) { m.At = 10 },
		"a part with none":       func(m *impl.Machine) { m.At, m.Env = 1, -1 },
		"all of it":              func(m *impl.Machine) { m.At, m.Env = 0, -1 },
		"a frame of another":     func(m *impl.Machine) { m.Frames[0].Val = 1 },
		"a frame of none":        func(m *impl.Machine) { m.Frames[0].Val = -1 },
		"a frame of TmAdd":       func(m *impl.Machine) { m.Frames[0] = impl.Frame{Kind: impl.TmAdd, At: 2, Env: 1, Val: 1} },
		"a frame of TmIf":        func(m *impl.Machine) { m.Frames[0] = impl.Frame{Kind: impl.TmIf, At: 7, Env: 0, Val: -1} },
		"a frame of TmLet":       func(m *impl.Machine) { m.Frames[0] = impl.Frame{Kind: impl.TmLet, At: 0, Env: -1, Val: -1} },
		"the least number":       func(m *impl.Machine) { m.Vals[1].Num = -1000000 },
		"the greatest number":    func(m *impl.Machine) { m.Vals[1].Num = 1000000 },
		"Done":                   func(m *impl.Machine) { m.Done, m.At, m.Env, m.Val = true, -1, -1, 1 },
		"Done with a function":   func(m *impl.Machine) { m.Done, m.At, m.Env, m.Val = true, -1, -1, 0 },
		"no frames":              func(m *impl.Machine) { m.Frames = nil },
		"a greater binding's Up": func(m *impl.Machine) { m.Binds[2].Up = 0 },
	} {
		checkGood(t, what, text, changed(change), true)
	}
	for what, change := range map[string]func(m *impl.Machine){
		"At below":                  func(m *impl.Machine) { m.At = -1 },
		"At beyond":                 func(m *impl.Machine) { m.At = 11 },
		"At with more bound":        func(m *impl.Machine) { m.At = 0 },
		"Env below":                 func(m *impl.Machine) { m.Env = -2 },
		"Env beyond":                func(m *impl.Machine) { m.Env = 3 },
		"Env without a binding":     func(m *impl.Machine) { m.Env = -1 },
		"Env with two":              func(m *impl.Machine) { m.Env = 2 },
		"Val beside At":             func(m *impl.Machine) { m.Val = 0 },
		"Val below":                 func(m *impl.Machine) { m.Val = -2 },
		"Done alone":                func(m *impl.Machine) { m.Done = true },
		"Done with At":              func(m *impl.Machine) { m.Done, m.At, m.Env, m.Val = true, 0, -1, 1 },
		"Done with Env":             func(m *impl.Machine) { m.Done, m.At, m.Env, m.Val = true, -1, 0, 1 },
		"Done with no Val":          func(m *impl.Machine) { m.Done, m.At, m.Env, m.Val = true, -1, -1, -1 },
		"Done with Val beyond":      func(m *impl.Machine) { m.Done, m.At, m.Env, m.Val = true, -1, -1, 2 },
		"a frame's other Kind":      func(m *impl.Machine) { m.Frames[0].Kind = impl.TmAdd },
		"a frame's other At":        func(m *impl.Machine) { m.Frames[0].At = 7 },
		"a frame's At below":        func(m *impl.Machine) { m.Frames[0].At = -1 },
		"a frame's At beyond":       func(m *impl.Machine) { m.Frames[0].At = 11 },
		"a frame's Env below":       func(m *impl.Machine) { m.Frames[0].Env = -2 },
		"a frame's Env beyond":      func(m *impl.Machine) { m.Frames[0].Env = 3 },
		"a frame without a binding": func(m *impl.Machine) { m.Frames[0].Env = -1 },
		"a frame with two":          func(m *impl.Machine) { m.Frames[0].Env = 2 },
		"a frame's Val below":       func(m *impl.Machine) { m.Frames[0].Val = -2 },
		"a frame's Val beyond":      func(m *impl.Machine) { m.Frames[0].Val = 2 },
		"a frame of TmVar":          func(m *impl.Machine) { m.Frames[0] = impl.Frame{Kind: impl.TmVar, At: 6, Env: 0, Val: -1} },
		"a frame of TmNum":          func(m *impl.Machine) { m.Frames[0] = impl.Frame{Kind: impl.TmNum, At: 8, Env: 0, Val: -1} },
		"a frame of TmLam":          func(m *impl.Machine) { m.Frames[0] = impl.Frame{Kind: impl.TmLam, At: 1, Env: -1, Val: -1} },
		"a frame of TmIf with Val":  func(m *impl.Machine) { m.Frames[0] = impl.Frame{Kind: impl.TmIf, At: 7, Env: 0, Val: 1} },
		"a frame of TmLet with Val": func(m *impl.Machine) { m.Frames[0] = impl.Frame{Kind: impl.TmLet, At: 0, Env: -1, Val: 0} },
		"a function's Num":          func(m *impl.Machine) { m.Vals[0].Num = 1 },
		"a function's At":           func(m *impl.Machine) { m.Vals[0].At = 0 },
		"a function's At below":     func(m *impl.Machine) { m.Vals[0].At = -1 },
		"a function's At beyond":    func(m *impl.Machine) { m.Vals[0].At = 11 },
		"a function's Env below":    func(m *impl.Machine) { m.Vals[0].Env = -2 },
		"a function's Env beyond":   func(m *impl.Machine) { m.Vals[0].Env = 3 },
		"a function with a binding": func(m *impl.Machine) { m.Vals[0].Env = 0 },
		"a function told a number":  func(m *impl.Machine) { m.Vals[0].Fun = false },
		"a number told a function":  func(m *impl.Machine) { m.Vals[1].Fun = true },
		"a number's At":             func(m *impl.Machine) { m.Vals[1].At = 1 },
		"a number's Env":            func(m *impl.Machine) { m.Vals[1].Env = -1 },
		"a number too small":        func(m *impl.Machine) { m.Vals[1].Num = -1000001 },
		"a number too great":        func(m *impl.Machine) { m.Vals[1].Num = 1000001 },
		"a binding's Val below":     func(m *impl.Machine) { m.Binds[2].Val = -1 },
		"a binding's Val beyond":    func(m *impl.Machine) { m.Binds[2].Val = 2 },
		"a binding's Up below":      func(m *impl.Machine) { m.Binds[2].Up = -2 },
		"a binding's own Up":        func(m *impl.Machine) { m.Binds[2].Up = 2 },
		"a binding's Up behind":     func(m *impl.Machine) { m.Binds[1].Up = 2 },
		"a value less":              func(m *impl.Machine) { m.Vals = m.Vals[:1] },
		"no bindings":               func(m *impl.Machine) { m.Binds = nil },
	} {
		checkGood(t, what, text, changed(change), false)
	}
}

// TestGoodFunctions: the values of a function's bindings have lesser numbers than it, also farther up.
func TestGoodFunctions(t *testing.T) {
	const one, two = "= 1 \\ v1", "= 1 = 2 \\ v2"
	fun := func(at, env int) impl.Val { return impl.Val{Fun: true, At: at, Env: env} }
	with := func(val int, vals []impl.Val, binds ...impl.Bind) impl.Machine {
		m := come(val, vals)
		m.Binds = binds
		return m
	}
	checkGood(t, "a lesser one", one, with(1, []impl.Val{{Num: 1}, fun(2, 0)}, impl.Bind{Val: 0, Up: -1}), true)
	checkGood(t, "a function", one, with(2, []impl.Val{{Num: 1}, fun(2, 0), fun(2, 1)}, impl.Bind{Val: 0, Up: -1}, impl.Bind{Val: 1, Up: -1}), true)
	checkGood(t, "itself", one, with(1, []impl.Val{{Num: 1}, fun(2, 0)}, impl.Bind{Val: 1, Up: -1}), false)
	checkGood(t, "a greater one", one, with(1, []impl.Val{fun(2, 0), {Num: 1}}, impl.Bind{Val: 1, Up: -1}), false)
	checkGood(t, "each other", one, with(1, []impl.Val{fun(2, 1), fun(2, 0)}, impl.Bind{Val: 0, Up: -1}, impl.Bind{Val: 1, Up: -1}), false)
	vals := []impl.Val{{Num: 1}, fun(4, 1), {Num: 3}}
	checkGood(t, "both lesser", two, with(1, vals, impl.Bind{Val: 0, Up: -1}, impl.Bind{Val: 0, Up: 0}), true)
	checkGood(t, "the nearest one greater", two, with(1, vals, impl.Bind{Val: 0, Up: -1}, impl.Bind{Val: 2, Up: 0}), false)
	checkGood(t, "the farther one greater", two, with(1, vals, impl.Bind{Val: 2, Up: -1}, impl.Bind{Val: 0, Up: 0}), false)
	checkGood(t, "the farther one itself", two, with(1, vals, impl.Bind{Val: 1, Up: -1}, impl.Bind{Val: 0, Up: 0}), false)
	checkGood(t, "a greater one not of it", two, with(1, vals, impl.Bind{Val: 0, Up: -1}, impl.Bind{Val: 0, Up: 0}, impl.Bind{Val: 2, Up: 1}), true)
	checkGood(t, "too few of them", two, with(1, vals, impl.Bind{Val: 0, Up: -1}, impl.Bind{Val: 0, Up: -1}), false)
	checkGood(t, "a binding around its TmLam alone", "\\ \\ v1", with(0, []impl.Val{fun(1, 0)}, impl.Bind{Val: 0, Up: -1}), false)
	checkGood(t, "no binding for it", "\\ \\ v1", with(0, []impl.Val{fun(1, -1)}), false)
	checkGood(t, "none needed by its variables", "\\ \\ v0", with(0, []impl.Val{fun(1, -1)}), false)
	checkGood(t, "more than are around", "\\ v0", with(1, []impl.Val{{Num: 1}, fun(0, 0)}, impl.Bind{Val: 0, Up: -1}), false)
}
