package tests

import (
	"fmt"
	"maps"
	"slices"
	"testing"

	"loop.example/g00339/impl"
)

// A plain value is a number, or a function with what the binders around it have.
type plainValue struct {
	fun *named
	num int
	has map[*named]*plainValue
}

// A plain run goes through a term with named binders part by part, each within the one that asks for it, and counts what a machine would do and keep.
type plainRun struct {
	fuel, steps, vals, binds, frames int
}

// gaveUp is the code with which a plain run ends early.
type gaveUp int

func (r *plainRun) step(room bool) {
	if !room {
		panic(gaveUp(impl.RunLarge))
	}
	if r.steps == r.fuel {
		panic(gaveUp(impl.RunFuel))
	}
	r.steps++
}

func (r *plainRun) newValue(v plainValue) *plainValue {
	r.step(r.vals < 500)
	r.vals++
	return &v
}

func (r *plainRun) frame() {
	r.step(r.frames < 500)
	r.frames++
}

func (r *plainRun) bound(has map[*named]*plainValue, binder *named, v *plainValue) map[*named]*plainValue {
	r.step(r.binds < 500)
	r.binds++
	r.frames--
	out := maps.Clone(has)
	out[binder] = v
	return out
}

func stuckUnless(ok bool) {
	if !ok {
		panic(gaveUp(impl.RunStuck))
	}
}

func (r *plainRun) of(x *named, has map[*named]*plainValue) *plainValue {
	switch x.kind {
	case impl.TmVar:
		r.step(true)
		return has[x.binder]
	case impl.TmNum:
		return r.newValue(plainValue{num: x.n})
	case impl.TmLam:
		return r.newValue(plainValue{fun: x, has: has})
	}
	r.frame()
	first := r.of(x.parts[0], has)
	switch x.kind {
	case impl.TmLet:
		return r.of(x.parts[1], r.bound(has, x, first))
	case impl.TmIf:
		stuckUnless(first.fun == nil)
		r.step(true)
		r.frames--
		if first.num == 0 {
			return r.of(x.parts[1], has)
		}
		return r.of(x.parts[2], has)
	}
	r.step(true)
	second := r.of(x.parts[1], has)
	if x.kind == impl.TmApp {
		stuckUnless(first.fun != nil)
		return r.of(first.fun.parts[0], r.bound(first.has, first.fun, second))
	}
	sum := first.num + second.num
	stuckUnless(first.fun == nil && second.fun == nil && sum >= -1000000 && sum <= 1000000)
	out := r.newValue(plainValue{num: sum})
	r.frames--
	return out
}

// end tells how the run of a closed term ends, and what it came to, where it is a value.
func (r *plainRun) end(x *named) (code int, v *plainValue) {
	defer func() {
		if why := recover(); why != nil {
			code = int(why.(gaveUp))
		}
	}()
	v = r.of(x, map[*named]*plainValue{})
	if v.fun != nil {
		return impl.RunFunction, v
	}
	return impl.RunNumber, v
}

func plainRunOf(l []impl.Cell, fuel int) (int, *plainValue, int) {
	r := plainRun{fuel: fuel}
	code, v := r.end(namedOf(l))
	return code, v, r.steps
}

// sizeBack tells how many cells a value has as a term, or 601 where it has more than 600.
func (v *plainValue) sizeBack(known map[*plainValue]int) int {
	if v.fun == nil {
		return 1
	}
	if known[v] == 0 {
		known[v] = min(601, v.sizeWithin(v.fun, known))
	}
	return known[v]
}

func (v *plainValue) sizeWithin(x *named, known map[*plainValue]int) int {
	if put := v.has[x.binder]; x.binder != nil && put != nil {
		return put.sizeBack(known)
	}
	size := 1
	for _, part := range x.parts {
		size += v.sizeWithin(part, known)
	}
	return size
}

// back tells a value as a term with named binders; to be asked only where it has room.
func (v *plainValue) back() *named {
	if v.fun == nil {
		return &named{kind: impl.TmNum, n: v.num}
	}
	return v.backWithin(v.fun, map[*named]*named{})
}

func (v *plainValue) backWithin(x *named, anew map[*named]*named) *named {
	if put := v.has[x.binder]; x.binder != nil && put != nil {
		return put.back()
	}
	out := &named{kind: x.kind, n: x.n, binder: anew[x.binder]}
	anew[x] = out
	for _, part := range x.parts {
		out.parts = append(out.parts, v.backWithin(part, anew))
	}
	return out
}

func plainBack(v *plainValue) ([]impl.Cell, bool) {
	if v.sizeBack(map[*plainValue]int{}) > 600 {
		return nil, false
	}
	return goodOrNone(v.back())
}

// plainBindings tells the bindings from one on, or nothing where there is none, and whether each is there and behind the one above it.
func plainBindings(m impl.Machine, env int) ([]impl.Bind, bool) {
	var out []impl.Bind
	for below := len(m.Binds); env != -1; {
		if env < 0 || env >= below {
			return nil, false
		}
		out = append(out, m.Binds[env])
		below, env = env, m.Binds[env].Up
	}
	return out, true
}

// plainAround tells how many are bound around a place.
func plainAround(t []impl.Cell, at int) int {
	x, depth := namedOf(t), 0
	for at > 0 {
		at--
		for i, part := range x.parts {
			if size := part.size(); at >= size {
				at -= size
				continue
			}
			if x.bindsIn(i) {
				depth++
			}
			x = part
			break
		}
	}
	return depth
}

func plainPlace(t []impl.Cell, m impl.Machine, at, env int) bool {
	if at < 0 || at >= len(t) {
		return false
	}
	bindings, ok := plainBindings(m, env)
	return ok && len(bindings) == plainAround(t, at)
}

func plainGoodVal(t []impl.Cell, m impl.Machine, number int) bool {
	v := m.Vals[number]
	if !v.Fun {
		return v.Num >= -1000000 && v.Num <= 1000000 && v == (impl.Val{Num: v.Num})
	}
	if v.Num != 0 || !plainPlace(t, m, v.At, v.Env) || t[v.At].Kind != impl.TmLam {
		return false
	}
	bindings, _ := plainBindings(m, v.Env)
	return !slices.ContainsFunc(bindings, func(b impl.Bind) bool { return b.Val >= number })
}

func plainGoodFrame(t []impl.Cell, m impl.Machine, f impl.Frame) bool {
	if !plainPlace(t, m, f.At, f.Env) || f.Kind != t[f.At].Kind || f.Kind < impl.TmApp {
		return false
	}
	hasTwo := f.Kind == impl.TmApp || f.Kind == impl.TmAdd
	return f.Val == -1 || hasTwo && f.Val >= 0 && f.Val < len(m.Vals)
}

// plainGood asks each field one by one; of a good term without free variables.
func plainGood(t []impl.Cell, m impl.Machine) bool {
	if len(m.Vals) > 500 || len(m.Binds) > 500 || len(m.Frames) > 500 {
		return false
	}
	for i, b := range m.Binds {
		if b.Val < 0 || b.Val >= len(m.Vals) || b.Up < -1 || b.Up >= i {
			return false
		}
	}
	for i := range m.Vals {
		if !plainGoodVal(t, m, i) {
			return false
		}
	}
	for _, f := range m.Frames {
		if !plainGoodFrame(t, m, f) {
			return false
		}
	}
	if m.Done {
		return m.At == -1 && m.Env == -1 && m.Val >= 0 && m.Val < len(m.Vals)
	}
	return m.Val == -1 && plainPlace(t, m, m.At, m.Env)
}

func cloneMachine(m impl.Machine) impl.Machine {
	m.Frames, m.Vals, m.Binds = slices.Clone(m.Frames), slices.Clone(m.Vals), slices.Clone(m.Binds)
	return m
}

func sameMachines(a, b impl.Machine) bool {
	return a.Done == b.Done && a.At == b.At && a.Env == b.Env && a.Val == b.Val && slices.Equal(a.Frames, b.Frames) && slices.Equal(a.Vals, b.Vals) && slices.Equal(a.Binds, b.Binds)
}

func isZeroMachine(m impl.Machine) bool {
	return sameMachines(m, impl.Machine{})
}

// fieldsOf tells where the numbers of a machine stand, by name.
func fieldsOf(m *impl.Machine) map[string]*int {
	out := map[string]*int{"At": &m.At, "Env": &m.Env, "Val": &m.Val}
	for i := range m.Frames {
		f, name := &m.Frames[i], fmt.Sprint("frame ", i, " ")
		out[name+"Kind"], out[name+"At"], out[name+"Env"], out[name+"Val"] = &f.Kind, &f.At, &f.Env, &f.Val
	}
	for i := range m.Vals {
		v, name := &m.Vals[i], fmt.Sprint("value ", i, " ")
		out[name+"Num"], out[name+"At"], out[name+"Env"] = &v.Num, &v.At, &v.Env
	}
	for i := range m.Binds {
		b, name := &m.Binds[i], fmt.Sprint("binding ", i, " ")
		out[name+"Val"], out[name+"Up"] = &b.Val, &b.Up
	}
	return out
}

// playedMachines tells all machines that steps lead to, so many at most.
func playedMachines(t *testing.T, l []impl.Cell, most int) []impl.Machine {
	t.Helper()
	m, ok := impl.StartMachine(l)
	if !ok {
		t.Fatalf("StartMachine(%q)", textOf(l))
	}
	out := []impl.Machine{m}
	for len(out) <= most {
		m, ok = impl.StepMachine(l, m)
		if !ok {
			break
		}
		out = append(out, m)
	}
	return out
}

// callsToEnd steps by value as long as something steps, so often at most, and tells whether it stepped to the end.
func callsToEnd(l []impl.Cell, most int) ([]impl.Cell, bool) {
	for range most {
		next, ok := impl.CallStep(l)
		if !ok {
			return l, true
		}
		l = next
	}
	return l, false
}

// drawCalls tells a closed term of many calls: functions are bound first, and then called with numbers and with each other.
func drawCalls(d *draw) []impl.Cell {
	functions := []string{"\\ v0", "\\ + v0 1", "\\ @ v0 v0", "\\ ? v0 1 2", "\\ \\ v1", "\\ \\ @ v1 v0", "\\ \\ @ v1 @ v1 v0", "\\ \\ + v0 v1", "\\ = v0 \\ + v1 1", "\\ ? v0 5 @ v0 v0"}
	var out []impl.Cell
	bound := 1 + d.below(4)
	for range bound {
		out = append(out, tmOf(impl.TmLet))
		out = append(out, termOf(functions[d.below(len(functions))])...)
	}
	return append(out, drawUse(d, 2+d.below(9), bound)...)
}

func drawUse(d *draw, deep int, bound int) []impl.Cell {
	if deep <= 0 || d.below(8) == 0 {
		if d.below(3) == 0 {
			return []impl.Cell{tmNum(d.below(4) - 1)}
		}
		return []impl.Cell{tmVar(d.below(bound))}
	}
	one := func() []impl.Cell { return drawUse(d, deep-2, bound) }
	switch d.below(8) {
	case 0:
		return slices.Concat(termOf("+"), one(), one())
	case 1:
		return slices.Concat(termOf("?"), one(), one(), one())
	case 2:
		return slices.Concat(termOf("="), one(), drawUse(d, deep-1, bound+1))
	case 3:
		return append(lams(1), drawUse(d, deep-1, bound+1)...)
	}
	return slices.Concat(termOf("@"), []impl.Cell{tmVar(d.below(bound))}, one())
}

// termsToRun tells all small closed terms, with numbers that are 0 and not 0, drawn ones, ones that have a type, and ones with many calls.
func termsToRun() [][]impl.Cell {
	var out [][]impl.Cell
	for _, l := range termsToType() {
		out = append(out, withNumbers(l, 0, 7))
		if len(l) > 7 {
			out = append(out, l, withNumbers(l, 1, 0, -1000000, 1000000))
		}
	}
	d := draw(66)
	for range 20000 {
		out = append(out, drawCalls(&d))
	}
	return out
}
