package tests

import (
	"slices"
	"testing"

	"loop.example/g00339/impl"
)

// openTerms tells good terms with free variables.
func openTerms() [][]impl.Cell {
	var out [][]impl.Cell
	for _, text := range []string{"v0", "v99", "\\ v1", "@ \\ v0 v0", "= 1 v1", "= v0 1", "? 0 1 v3", "+ 1 v0", "\\ \\ v2", "? v0 1 2", "\\ = v1 v0"} {
		out = append(out, termOf(text))
	}
	return append(out, lams(98, tmVar(98)))
}

func machinesToHand() []impl.Machine {
	const most, least = 1<<63 - 1, -1 << 63
	return []impl.Machine{
		{}, {Env: -1, Val: -1}, {At: -1, Env: -1, Val: -1}, {Done: true}, come(0, numVals(5)), come(-1, nil), come(0, nil),
		{At: most, Env: most, Val: most}, {At: least, Env: least, Val: least}, {Done: true, At: -1, Env: -1, Val: most}, {Done: true, At: -1, Env: -1, Val: least},
		{At: 1, Env: -1, Val: -1}, {At: 0, Env: 0, Val: -1}, {Env: -1, Val: -1, Binds: []impl.Bind{{}}},
		come(0, []impl.Val{{Num: most}}), come(0, []impl.Val{{Num: least}}), come(0, []impl.Val{{Fun: true, At: most, Env: most}}), come(0, []impl.Val{{Fun: true, At: least, Env: least}}), come(0, []impl.Val{{Fun: true, Env: -1}}), come(0, []impl.Val{{Fun: true, At: 1, Env: -1}}), come(0, []impl.Val{{Fun: true}}),
		come(0, numVals(5), impl.Frame{}), come(0, numVals(5), impl.Frame{Kind: most, At: most, Env: most, Val: most}), come(0, numVals(5), impl.Frame{Kind: least, At: least, Env: least, Val: least}), come(0, numVals(5), frameOf(impl.TmApp, -1)), come(0, numVals(5), frameOf(impl.TmApp, 0)),
		{Env: -1, Val: -1, Vals: numVals(1), Binds: []impl.Bind{{Up: -1}, {Up: most}}}, {Env: -1, Val: -1, Vals: numVals(1), Binds: []impl.Bind{{Up: least}}}, {Env: -1, Val: -1, Vals: numVals(1), Binds: []impl.Bind{{Val: most, Up: -1}}}, {Env: -1, Val: -1, Vals: numVals(1), Binds: []impl.Bind{{Val: least, Up: -1}}},
		{Env: -1, Val: -1, Vals: []impl.Val{}, Binds: []impl.Bind{}, Frames: []impl.Frame{}},
		{Env: -1, Val: -1, Vals: nums(501)}, {Env: -1, Val: -1, Vals: nums(100000)}, {Env: -1, Val: -1, Vals: nums(1), Binds: binds(100000)}, {Env: -1, Val: -1, Frames: frames(impl.TmAdd, 100000)},
	}
}

// TestMachinesOfWrongTerms: nothing runs that is no good term without free variables.
func TestMachinesOfWrongTerms(t *testing.T) {
	for _, l := range append(wrongTerms(), openTerms()...) {
		kept := slices.Clone(l)
		start, okStart := impl.StartMachine(l)
		played, made, okPlayed := impl.PlayMachine(l, 10)
		code, num, steps, okRun := impl.RunTerm(l, 10)
		if okStart || okPlayed || okRun || !isZeroMachine(start) || !isZeroMachine(played) || made != 0 || code != 0 || num != 0 || steps != 0 {
			t.Errorf("%v: %v %v, %v %d %v, %d %d %d %v", l, start, okStart, played, made, okPlayed, code, num, steps, okRun)
		}
		for _, m := range machinesToHand() {
			if impl.GoodMachine(l, m) {
				t.Errorf("%v: told good: %v", l, m)
			}
			checkRefused(t, l, m)
		}
		if !slices.Equal(l, kept) {
			t.Errorf("changed: %v, was %v", l, kept)
		}
	}
}

// TestWrongMachines hands machines of all kinds to terms of all kinds.
func TestWrongMachines(t *testing.T) {
	refused := 0
	for _, text := range append(termsToSpoil, endless, "@ 1 2") {
		l := termOf(text)
		hand := machinesToHand()
		for _, other := range termsToSpoil {
			hand = append(hand, playedMachines(t, termOf(other), 60)...)
		}
		for _, m := range hand {
			want := plainGood(l, m)
			if got := impl.GoodMachine(l, m); got != want {
				t.Errorf("GoodMachine(%q, %v): %v, want %v", text, m, got, want)
			}
			if !want {
				refused++
				checkRefused(t, l, m)
			}
		}
		if !slices.Equal(l, termOf(text)) {
			t.Errorf("changed: %v, was %q", l, text)
		}
	}
	if refused < 1000 {
		t.Error("few are refused:", refused)
	}
}

// withRoom tells a machine whose lists have more memory than they are long, and these lists with all of it.
func withRoom(m impl.Machine) (impl.Machine, impl.Machine) {
	frame := impl.Frame{Kind: 9, At: 9, Env: 9, Val: 9}
	val := impl.Val{Fun: true, Num: 9, At: 9, Env: 9}
	bind := impl.Bind{Val: 9, Up: 9}
	all := m
	all.Frames = append(slices.Clone(m.Frames), frame, frame)
	all.Vals = append(slices.Clone(m.Vals), val, val)
	all.Binds = append(slices.Clone(m.Binds), bind, bind)
	m.Frames, m.Vals, m.Binds = all.Frames[:len(m.Frames)], all.Vals[:len(m.Vals)], all.Binds[:len(m.Binds)]
	return m, all
}

func scribbleMachine(m impl.Machine) {
	for i := range m.Frames[:cap(m.Frames)] {
		m.Frames[:cap(m.Frames)][i] = impl.Frame{Kind: 77, At: 77, Env: 77, Val: 77}
	}
	for i := range m.Vals[:cap(m.Vals)] {
		m.Vals[:cap(m.Vals)][i] = impl.Val{Num: 77, At: 77, Env: 77}
	}
	for i := range m.Binds[:cap(m.Binds)] {
		m.Binds[:cap(m.Binds)][i] = impl.Bind{Val: 77, Up: 77}
	}
}

// TestMachinesBehindTheLength holds that what lies behind a list's length is neither read, nor written, nor handed out, and that no answer shares memory with an argument.
func TestMachinesBehindTheLength(t *testing.T) {
	for _, text := range append(termsToSpoil, "@ 1 2") {
		size := len(termOf(text))
		back := append(termOf(text), impl.Cell{Kind: 9, N: -9}, tmVar(3), tmOf(impl.TmLet))
		keptCells := slices.Clone(back)
		l := back[:size]
		all := playedMachines(t, l, 60)
		for i, one := range all {
			m, behind := withRoom(one)
			kept := cloneMachine(behind)
			if !impl.GoodMachine(l, m) || impl.GoodMachine(l, behind) {
				t.Errorf("%q: %v", text, m)
			}
			read, isRead := impl.ReadBack(l, m)
			next, ok := impl.StepMachine(l, m)
			if ok != (i+1 < len(all)) || ok && !sameMachines(next, all[i+1]) {
				t.Errorf("%q, %v: %v %v", text, m, next, ok)
			}
			scribbleMachine(next)
			scribbleCells(read)
			if !sameMachines(behind, kept) || !sameMachines(m, one) || isRead != (m.Done && len(m.Frames) == 0) {
				t.Errorf("%q: changed: %v, was %v", text, behind, kept)
			}
		}
		start, _ := impl.StartMachine(l)
		played, _, _ := impl.PlayMachine(l, 100)
		scribbleMachine(start)
		scribbleMachine(played)
		impl.RunTerm(l, 100)
		if !slices.Equal(back, keptCells) {
			t.Errorf("changed: %v, was %v", back, keptCells)
		}
	}
}

func TestMachinesAlikeEachTime(t *testing.T) {
	l := termOf("= 5 = \\ + v0 v1 \\ @ v1 + v2 v0")
	for range 3 {
		m, made, ok := impl.PlayMachine(l, 100)
		if made != 7 || !ok {
			t.Error(made, ok)
		}
		got, ok := impl.ReadBack(l, m)
		sameTerm(t, "ReadBack", got, ok, termOf("\\ @ \\ + v0 5 + 5 v0"), true)
		scribbleMachine(m)
		scribbleCells(got)
	}
}
