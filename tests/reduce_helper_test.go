package tests

import (
	"slices"

	"loop.example/g00339/impl"
)

// renewed tells a new x throughout, in which variables of a binder give way to what stands for it in instead.
func (x *named) renewed(anew, instead map[*named]*named) *named {
	if put := instead[x.binder]; put != nil {
		return put.renewed(map[*named]*named{}, nil)
	}
	out := &named{kind: x.kind, n: x.n, binder: x.binder}
	if y := anew[x.binder]; y != nil {
		out.binder = y
	}
	anew[x] = out
	for _, part := range x.parts {
		out.parts = append(out.parts, part.renewed(anew, instead))
	}
	return out
}

// withParts tells x with other parts, in which its variables are those of the new one.
func (x *named) withParts(parts []*named) *named {
	out := &named{kind: x.kind, n: x.n, binder: x.binder}
	anew := map[*named]*named{x: out}
	for _, part := range parts {
		out.parts = append(out.parts, part.renewed(anew, nil))
	}
	return out
}

func (x *named) isValue() bool {
	return x.kind == impl.TmLam || x.kind == impl.TmNum
}

func (x *named) isRedex() bool {
	switch x.kind {
	case impl.TmApp:
		return x.parts[0].kind == impl.TmLam
	case impl.TmLet:
		return true
	case impl.TmAdd:
		a, b := x.parts[0], x.parts[1]
		return a.kind == impl.TmNum && b.kind == impl.TmNum && a.n+b.n <= 1000000 && a.n+b.n >= -1000000
	case impl.TmIf:
		return x.parts[0].kind == impl.TmNum
	}
	return false
}

func (x *named) contraction() *named {
	switch x.kind {
	case impl.TmApp:
		return x.parts[0].parts[0].renewed(map[*named]*named{}, map[*named]*named{x.parts[0]: x.parts[1]})
	case impl.TmLet:
		return x.parts[1].renewed(map[*named]*named{}, map[*named]*named{x: x.parts[0]})
	case impl.TmAdd:
		return &named{kind: impl.TmNum, n: x.parts[0].n + x.parts[1].n}
	}
	if x.parts[0].n == 0 {
		return x.parts[1]
	}
	return x.parts[2]
}

func (x *named) size() int {
	size := 1
	for _, part := range x.parts {
		size += part.size()
	}
	return size
}

// redexes tells those in x by their place, from the front.
func (x *named) redexes() []*named {
	var out []*named
	if x.isRedex() {
		out = append(out, x)
	}
	for _, part := range x.parts {
		out = append(out, part.redexes()...)
	}
	return out
}

// contracting tells x with these of its redexes contracted, the inner ones first, and whether there was room all along.
func (x *named) contracting(these []*named) (*named, bool) {
	var parts []*named
	for _, part := range x.parts {
		made, ok := part.contracting(these)
		if !ok {
			return nil, false
		}
		parts = append(parts, made)
	}
	out := x.withParts(parts)
	if out.size() > 600 {
		return nil, false
	}
	if slices.Contains(these, x) {
		out = out.contraction()
	}
	return out, out.size() <= 600
}

// called tells the redex that steps by value, or nil.
func (x *named) called() *named {
	asked := map[int]int{impl.TmApp: 2, impl.TmAdd: 2, impl.TmLet: 1, impl.TmIf: 1}[x.kind]
	for _, part := range x.parts[:asked] {
		if !part.isValue() {
			return part.called()
		}
	}
	if x.isRedex() {
		return x
	}
	return nil
}

func plainSteps(l []impl.Cell) ([][]impl.Cell, bool) {
	x := namedOf(l)
	var out [][]impl.Cell
	for _, redex := range x.redexes() {
		made, ok := x.contracting([]*named{redex})
		if !ok {
			return nil, false
		}
		cells, ok := goodOrNone(made)
		if !ok {
			return nil, false
		}
		out = append(out, cells)
	}
	return out, true
}

func plainDevelop(l []impl.Cell) ([]impl.Cell, bool) {
	x := namedOf(l)
	made, ok := x.contracting(x.redexes())
	if !ok {
		return nil, false
	}
	return goodOrNone(made)
}

// plainLedTo tells what comes of each choice of redexes, by its text.
func plainLedTo(l []impl.Cell) (map[string][]impl.Cell, bool) {
	x := namedOf(l)
	redexes := x.redexes()
	out := map[string][]impl.Cell{}
	for choice := range 1 << len(redexes) {
		var these []*named
		for i, redex := range redexes {
			if choice>>i&1 == 1 {
				these = append(these, redex)
			}
		}
		made, ok := x.contracting(these)
		if !ok {
			return nil, false
		}
		cells := made.cells(nil)
		out[textOf(cells)] = cells
	}
	return out, len(out) <= 200
}

func plainNormal(l []impl.Cell, steps int) ([]impl.Cell, int, bool) {
	for made := range steps {
		x := namedOf(l)
		redexes := x.redexes()
		if len(redexes) == 0 {
			return l, made, true
		}
		y, ok := x.contracting(redexes[:1])
		if !ok {
			return nil, 0, false
		}
		l, ok = goodOrNone(y)
		if !ok {
			return nil, 0, false
		}
	}
	return l, steps, true
}

func plainCall(l []impl.Cell) ([]impl.Cell, bool) {
	x := namedOf(l)
	redex := x.called()
	if redex == nil {
		return nil, false
	}
	made, ok := x.contracting([]*named{redex})
	if !ok {
		return nil, false
	}
	return goodOrNone(made)
}

// withNumbers tells l with these numbers, one after the other, in the place of its own.
func withNumbers(l []impl.Cell, numbers ...int) []impl.Cell {
	out := slices.Clone(l)
	at := 0
	for i := range out {
		if out[i].Kind == impl.TmNum {
			out[i].N = numbers[at%len(numbers)]
			at++
		}
	}
	return out
}

// drawRedexes tells a term in which half of the TmApp are of a TmLam, and many numbers are 0.
func drawRedexes(d *draw, cells int, far int) []impl.Cell {
	var out []impl.Cell
	for _, c := range drawTerm(d, cells, far) {
		if c.Kind == impl.TmNum && d.below(3) > 0 {
			c.N = d.below(2)
		}
		out = append(out, c)
		if c.Kind == impl.TmApp && d.below(2) == 0 {
			out = append(out, tmOf(impl.TmLam))
		}
	}
	return out
}

// reduceTerms tells all small terms, with numbers that are 0 and not 0, and drawn ones that have few redexes.
func reduceTerms(drawn int) [][]impl.Cell {
	var out [][]impl.Cell
	for _, l := range upToCells(5, 2) {
		out = append(out, withNumbers(l, 0, 7), withNumbers(l, 7, 0), withNumbers(l, -1000000, 1000000, 1, 0))
	}
	d := draw(44)
	for len(out) < drawn {
		l := drawRedexes(&d, 3+d.below(25), []int{2, 3, 100}[d.below(3)])
		if n := len(namedOf(l).redexes()); n > 0 && n <= 7 {
			out = append(out, l)
		}
	}
	return out
}

// stuckTerm tells a term of just so many cells (an odd count) without a redex or a variable.
func stuckTerm(cells int) []impl.Cell {
	return append(slices.Repeat(termOf("@ 1"), cells/2), tmNum(1))
}

// doubled tells a redex of so many cells and 5 more, which comes to twice as many and 1 more.
func doubled(cells int) []impl.Cell {
	return append(termOf("@ \\ + v0 v0"), stuckTerm(cells)...)
}

// wayDown tells a term that leads to so many terms and one more: each of its redexes comes to its first part.
func wayDown(redexes int, in ...impl.Cell) []impl.Cell {
	return slices.Concat(slices.Repeat(termOf("="), redexes), in, slices.Repeat(termOf("v0"), redexes))
}
