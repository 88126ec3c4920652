package tests

import (
	"maps"
	"slices"
	"strconv"
	"strings"
	"testing"

	"loop.example/g00339/impl"
)

func tyVar(n int) impl.TyCell { return impl.TyCell{Kind: impl.TyVar, N: n} }

var tyNum = impl.TyCell{Kind: impl.TyNum}
var tyFun = impl.TyCell{Kind: impl.TyFun}

// A plain type is a tree.
type plainTy struct {
	kind, n  int
	from, to *plainTy
}

func (x *plainTy) cells() []impl.TyCell {
	if x == nil {
		return nil
	}
	out := []impl.TyCell{{Kind: x.kind, N: x.n}}
	return slices.Concat(out, x.from.cells(), x.to.cells())
}

func (x *plainTy) text() string {
	switch x.kind {
	case impl.TyVar:
		return "a" + strconv.Itoa(x.n)
	case impl.TyNum:
		return "num"
	}
	return "(" + x.from.text() + "->" + x.to.text() + ")"
}

func (x *plainTy) size() int {
	if x == nil {
		return 0
	}
	return 1 + x.from.size() + x.to.size()
}

// with tells x with what instead makes of each variable in its place.
func (x *plainTy) with(instead func(n int) *plainTy) *plainTy {
	switch x.kind {
	case impl.TyVar:
		return instead(x.n)
	case impl.TyNum:
		return x
	}
	return funTy(x.from.with(instead), x.to.with(instead))
}

func (x *plainTy) has(n int) bool {
	if x.kind == impl.TyFun {
		return x.from.has(n) || x.to.has(n)
	}
	return x.kind == impl.TyVar && x.n == n
}

func varTy(n int) *plainTy             { return &plainTy{kind: impl.TyVar, n: n} }
func numTy() *plainTy                  { return &plainTy{kind: impl.TyNum} }
func funTy(from, to *plainTy) *plainTy { return &plainTy{impl.TyFun, 0, from, to} }

// treeOfType tells nil where the cells are no type.
func treeOfType(l []impl.TyCell) *plainTy {
	if len(l) > 60 {
		return nil
	}
	x, rest := typeTreeAhead(l)
	if len(rest) > 0 {
		return nil
	}
	return x
}

func typeTreeAhead(l []impl.TyCell) (*plainTy, []impl.TyCell) {
	switch {
	case len(l) == 0:
		return nil, nil
	case l[0].Kind == impl.TyVar && l[0].N >= 0 && l[0].N <= 30:
		return varTy(l[0].N), l[1:]
	case l[0] == tyNum:
		return numTy(), l[1:]
	case l[0] != tyFun:
		return nil, nil
	}
	from, rest := typeTreeAhead(l[1:])
	if from == nil {
		return nil, nil
	}
	to, rest := typeTreeAhead(rest)
	if to == nil {
		return nil, nil
	}
	return funTy(from, to), rest
}

// typeOf reads a type's text without asking the program; an empty text is no type.
func typeOf(text string) []impl.TyCell {
	var out []impl.TyCell
	words := strings.NewReplacer("(", " ( ", ")", " ", "->", " ").Replace(text)
	for _, word := range strings.Fields(words) {
		switch word[0] {
		case '(':
			out = append(out, tyFun)
		case 'n':
			out = append(out, tyNum)
		default:
			n, _ := strconv.Atoi(word[1:])
			out = append(out, tyVar(n))
		}
	}
	if x, _ := typeTreeAhead(out); text != "" && x.text() != text {
		panic("no text of a type: " + text)
	}
	return out
}

func tidyTree(x *plainTy) *plainTy {
	var seen []int
	return x.with(func(n int) *plainTy {
		if !slices.Contains(seen, n) {
			seen = append(seen, n)
		}
		return varTy(slices.Index(seen, n))
	})
}

// partAt tells the part of a type to which a way of f (from) and t (to) leads, or nil.
func partAt(x *plainTy, way string) *plainTy {
	for _, turn := range way {
		if x.kind != impl.TyFun {
			return nil
		}
		if turn == 'f' {
			x = x.from
		} else {
			x = x.to
		}
	}
	return x
}

// waysToVars tells for each variable a way to it.
func waysToVars(x *plainTy, way string, told map[int]string) {
	if x.kind == impl.TyVar {
		told[x.n] = way
	}
	if x.kind == impl.TyFun {
		waysToVars(x.from, way+"f", told)
		waysToVars(x.to, way+"t", told)
	}
}

// plainInstance puts in the place of each variable of b what stands in a where it does, and looks whether that is a.
func plainInstance(a, b *plainTy) bool {
	ways := map[int]string{}
	waysToVars(b, "", ways)
	for _, way := range ways {
		if partAt(a, way) == nil {
			return false
		}
	}
	made := b.with(func(n int) *plainTy { return partAt(a, ways[n]) })
	return made.text() == a.text()
}

// Equations are what a term asks of its types. Nothing is shared in them: what TmLet binds is typed anew at each place.
type equations struct {
	list [][2]*plainTy
	vars int
}

func (e *equations) newVar() *plainTy {
	e.vars++
	return varTy(e.vars)
}

func (e *equations) ask(a, b *plainTy) {
	e.list = append(e.list, [2]*plainTy{a, b})
}

func (e *equations) of(x *named, around map[*named]*plainTy) *plainTy {
	switch x.kind {
	case impl.TmNum:
		return numTy()
	case impl.TmVar:
		if x.binder.kind == impl.TmLam {
			return around[x.binder]
		}
		return e.of(x.binder.parts[0], around)
	case impl.TmLam:
		inner := maps.Clone(around)
		inner[x] = e.newVar()
		return funTy(inner[x], e.of(x.parts[0], inner))
	}
	var parts []*plainTy
	for _, part := range x.parts {
		parts = append(parts, e.of(part, around))
	}
	switch x.kind {
	case impl.TmApp:
		to := e.newVar()
		e.ask(parts[0], funTy(parts[1], to))
		return to
	case impl.TmAdd:
		e.ask(parts[0], numTy())
		e.ask(parts[1], numTy())
		return numTy()
	case impl.TmIf:
		e.ask(parts[0], numTy())
		e.ask(parts[1], parts[2])
	}
	return parts[len(parts)-1]
}

// solved tells x where the equations hold, nil where they cannot; false where they grow too large to go on.
func (e *equations) solved(x *plainTy) (*plainTy, bool) {
	for len(e.list) > 0 {
		a, b := e.list[0][0], e.list[0][1]
		e.list = e.list[1:]
		if b.kind == impl.TyVar {
			a, b = b, a
		}
		switch {
		case a.text() == b.text():
		case a.kind == impl.TyFun && b.kind == impl.TyFun:
			e.ask(a.from, b.from)
			e.ask(a.to, b.to)
		case a.kind != impl.TyVar || b.has(a.n):
			return nil, true
		default:
			put := func(n int) *plainTy {
				if n == a.n {
					return b
				}
				return varTy(n)
			}
			x = x.with(put)
			size := x.size()
			for i, one := range e.list {
				e.list[i] = [2]*plainTy{one[0].with(put), one[1].with(put)}
				size += e.list[i][0].size() + e.list[i][1].size()
			}
			if size > 20000 {
				return nil, false
			}
		}
	}
	return x, true
}

// plainInfer tells the type of a good term; false behind it where it was too large to tell.
func plainInfer(l []impl.Cell) ([]impl.TyCell, bool, bool) {
	if len(plainFree(l)) > 0 || len(l) > 40 {
		return nil, false, true
	}
	var e equations
	ty, told := e.solved(e.of(namedOf(l), map[*named]*plainTy{}))
	if ty == nil || ty.size() > 60 {
		return nil, false, told
	}
	return tidyTree(ty).cells(), true, told
}

// allTypes tells all types of so many cells over these variables.
func allTypes(cells int, vars int) []*plainTy {
	var out []*plainTy
	if cells == 1 {
		for n := range vars {
			out = append(out, varTy(n))
		}
		return append(out, numTy())
	}
	for first := 1; first < cells-1; first++ {
		for _, from := range allTypes(first, vars) {
			for _, to := range allTypes(cells-1-first, vars) {
				out = append(out, funTy(from, to))
			}
		}
	}
	return out
}

func upToTypes(most int, vars int) []*plainTy {
	var out []*plainTy
	for cells := 1; cells <= most; cells++ {
		out = append(out, allTypes(cells, vars)...)
	}
	return out
}

// drawType tells a type with just so many variables and num at its ends.
func drawType(d *draw, ends int, vars int) *plainTy {
	if ends > 1 {
		first := 1 + d.below(ends-1)
		return funTy(drawType(d, first, vars), drawType(d, ends-first, vars))
	}
	if d.below(4) == 0 {
		return numTy()
	}
	return varTy(d.below(vars))
}

// longType tells a type with these at its ends, TyFun within TyFun on the one side or the other.
func longType(within string, ends ...*plainTy) *plainTy {
	if len(ends) == 1 {
		return ends[0]
	}
	if within == "from" {
		last := len(ends) - 1
		return funTy(longType(within, ends[:last]...), ends[last])
	}
	return funTy(ends[0], longType(within, ends[1:]...))
}

// differentVars tells so many variables, from the greatest number on.
func differentVars(count int) []*plainTy {
	var out []*plainTy
	for n := count - 1; n >= 0; n-- {
		out = append(out, varTy(n))
	}
	return out
}

// closedTerms tells all terms of so many cells in which so many variables are bound around.
func closedTerms(cells int, bound int) [][]impl.Cell {
	if cells == 1 {
		return allTerms(1, bound)
	}
	var out [][]impl.Cell
	for _, behind := range closedTerms(cells-1, bound+1) {
		out = append(out, append(termOf("\\"), behind...))
	}
	for first := 1; first < cells-1; first++ {
		ones, second := closedTerms(first, bound), cells-1-first
		for _, a := range ones {
			for _, b := range closedTerms(second, bound) {
				out = append(out, slices.Concat(termOf("@"), a, b), slices.Concat(termOf("+"), a, b))
			}
			for _, b := range closedTerms(second, bound+1) {
				out = append(out, slices.Concat(termOf("="), a, b))
			}
			for third := 1; third < second; third++ {
				for _, b := range closedTerms(second-third, bound) {
					for _, c := range closedTerms(third, bound) {
						out = append(out, slices.Concat(termOf("?"), a, b, c))
					}
				}
			}
		}
	}
	return out
}

func wrongTypes() [][]impl.TyCell {
	v := tyVar(0)
	out := [][]impl.TyCell{nil, {}, {tyFun}, {tyFun, v}, {v, v}, {tyNum, tyNum}, {tyFun, v, v, v}, {tyFun, tyFun, v, v}, {v, tyFun, v}, {tyNum, tyFun, v, v}}
	for _, within := range []string{"from", "to"} {
		long := longType(within, differentVars(31)...).cells()
		out = append(out, long, long[:60], long[:59], long[1:], append(longType(within, differentVars(30)...).cells(), v))
	}
	out = append(out, slices.Repeat([]impl.TyCell{tyFun}, 60), slices.Repeat([]impl.TyCell{v}, 60), slices.Repeat([]impl.TyCell{tyFun}, 100000))
	const most, least = 1<<63 - 1, -1 << 63
	for _, c := range []impl.TyCell{{}, {Kind: -1}, {Kind: 4}, {Kind: most}, {Kind: least}, {N: 1}, tyVar(-1), tyVar(31), tyVar(most), tyVar(least), {Kind: impl.TyNum, N: 1}, {Kind: impl.TyNum, N: -1}, {Kind: impl.TyNum, N: least}} {
		out = append(out, []impl.TyCell{c}, []impl.TyCell{tyFun, c, v}, []impl.TyCell{tyFun, v, c}, []impl.TyCell{c, v, v})
	}
	for _, n := range []int{1, -1, 30, most, least} {
		out = append(out, []impl.TyCell{{Kind: impl.TyFun, N: n}, v, v}, []impl.TyCell{tyFun, {Kind: impl.TyFun, N: n}, v, v, v})
	}
	return out
}

func sameType(t *testing.T, what string, got []impl.TyCell, ok bool, want []impl.TyCell, is bool) {
	t.Helper()
	if ok != is || !slices.Equal(got, want) {
		t.Errorf("%s: %v %v, want %v %v", what, got, ok, want, is)
	}
}
