package tests

import (
	"slices"
	"strconv"
	"strings"
	"testing"

	"loop.example/g00339/impl"
)

func tmVar(n int) impl.Cell { return impl.Cell{Kind: impl.TmVar, N: n} }
func tmNum(n int) impl.Cell { return impl.Cell{Kind: impl.TmNum, N: n} }
func tmOf(kind int) impl.Cell {
	return impl.Cell{Kind: kind}
}

// termOf reads a text without asking the program.
func termOf(text string) []impl.Cell {
	var out []impl.Cell
	for _, word := range strings.Fields(text) {
		at := strings.Index("...\\@+?=", word)
		switch {
		case at >= 0:
			out = append(out, tmOf(at))
		case word[0] == 'v':
			n, _ := strconv.Atoi(word[1:])
			out = append(out, tmVar(n))
		default:
			n, _ := strconv.Atoi(word)
			out = append(out, tmNum(n))
		}
	}
	return out
}

func wordOfCell(c impl.Cell) string {
	switch c.Kind {
	case impl.TmVar:
		return "v" + strconv.Itoa(c.N)
	case impl.TmNum:
		return strconv.Itoa(c.N)
	}
	return map[int]string{impl.TmLam: "\\", impl.TmApp: "@", impl.TmAdd: "+", impl.TmIf: "?", impl.TmLet: "="}[c.Kind]
}

func textOf(l []impl.Cell) string {
	var words []string
	for _, c := range l {
		words = append(words, wordOfCell(c))
	}
	return strings.Join(words, " ")
}

// A named term has a binder of its own for each that binds: a variable is its binder, or, where it is nil, the N-th one outside. Nothing is ever shifted in it.
type named struct {
	kind   int
	n      int
	binder *named
	parts  []*named
}

var partsOfKind = map[int]int{impl.TmVar: 0, impl.TmNum: 0, impl.TmLam: 1, impl.TmApp: 2, impl.TmAdd: 2, impl.TmIf: 3, impl.TmLet: 2}

// bindsIn tells whether the part at a place stands under what its term binds.
func (x *named) bindsIn(part int) bool {
	return x.kind == impl.TmLam || x.kind == impl.TmLet && part == 1
}

// namedAhead tells nil where the cells at the front are no good term.
func namedAhead(l []impl.Cell, around []*named) (*named, []impl.Cell) {
	if len(l) == 0 {
		return nil, nil
	}
	x := &named{kind: l[0].Kind, n: l[0].N}
	size, known := partsOfKind[x.kind]
	wrong := !known || x.kind == impl.TmVar && (x.n < 0 || x.n > 99) || x.kind == impl.TmNum && (x.n < -1000000 || x.n > 1000000) || x.kind > impl.TmNum && x.n != 0
	if wrong {
		return nil, nil
	}
	if x.kind == impl.TmVar && x.n < len(around) {
		x.binder, x.n = around[len(around)-1-x.n], 0
	} else if x.kind == impl.TmVar {
		x.n -= len(around)
	}
	rest := l[1:]
	for i := range size {
		inner := around
		if x.bindsIn(i) {
			inner = append(slices.Clone(around), x)
		}
		var part *named
		part, rest = namedAhead(rest, inner)
		if part == nil {
			return nil, nil
		}
		x.parts = append(x.parts, part)
	}
	return x, rest
}

func namedOf(l []impl.Cell) *named {
	if len(l) > 600 {
		return nil
	}
	x, rest := namedAhead(l, nil)
	if len(rest) > 0 {
		return nil
	}
	return x
}

// cells tells a named term by how far out its binders are.
func (x *named) cells(around []*named) []impl.Cell {
	if x.kind == impl.TmVar && x.binder != nil {
		return []impl.Cell{tmVar(len(around) - 1 - slices.Index(around, x.binder))}
	}
	if x.kind == impl.TmVar {
		return []impl.Cell{tmVar(len(around) + x.n)}
	}
	out := []impl.Cell{{Kind: x.kind, N: x.n}}
	for i, part := range x.parts {
		inner := around
		if x.bindsIn(i) {
			inner = append(slices.Clone(around), x)
		}
		out = append(out, part.cells(inner)...)
	}
	return out
}

// withFree tells x with what change makes of each variable of outside in its place; a new one throughout.
func (x *named) withFree(anew map[*named]*named, change func(n int) *named) *named {
	if x.kind == impl.TmVar && x.binder == nil {
		return change(x.n)
	}
	out := &named{kind: x.kind, n: x.n, binder: anew[x.binder]}
	anew[x] = out
	for _, part := range x.parts {
		out.parts = append(out.parts, part.withFree(anew, change))
	}
	return out
}

func freeNamed(n int) *named {
	return &named{kind: impl.TmVar, n: n}
}

func plainFree(l []impl.Cell) []int {
	var out []int
	namedOf(l).withFree(map[*named]*named{}, func(n int) *named {
		out = append(out, n)
		return freeNamed(n)
	})
	slices.Sort(out)
	return slices.Compact(out)
}

// goodOrNone tells the cells of a named term, where they are a good term.
func goodOrNone(x *named) ([]impl.Cell, bool) {
	l := x.cells(nil)
	if namedOf(l) == nil {
		return nil, false
	}
	return l, true
}

func plainShift(l []impl.Cell, by, from int) ([]impl.Cell, bool) {
	x := namedOf(l)
	if x == nil || by < -50 || by > 50 || from < 0 || from > 99 {
		return nil, false
	}
	below := false
	x = x.withFree(map[*named]*named{}, func(n int) *named {
		if n < from {
			return freeNamed(n)
		}
		below = below || n+by < from
		return freeNamed(n + by)
	})
	if below {
		return nil, false
	}
	return goodOrNone(x)
}

func plainSubst(l []impl.Cell, k int, s []impl.Cell) ([]impl.Cell, bool) {
	x, put := namedOf(l), namedOf(s)
	if x == nil || put == nil || k < 0 || k > 99 {
		return nil, false
	}
	return goodOrNone(x.withFree(map[*named]*named{}, func(n int) *named {
		switch {
		case n == k:
			return put.withFree(map[*named]*named{}, freeNamed)
		case n > k:
			return freeNamed(n - 1)
		}
		return freeNamed(n)
	}))
}

// allTerms tells all terms of so many cells over these variables, and one number.
func allTerms(cells int, vars int) [][]impl.Cell {
	if cells == 1 {
		out := [][]impl.Cell{{tmNum(7)}}
		for n := range vars {
			out = append(out, []impl.Cell{tmVar(n)})
		}
		return out
	}
	var out [][]impl.Cell
	for kind := impl.TmLam; kind <= impl.TmLet; kind++ {
		for _, behind := range allRows(cells-1, vars, partsOfKind[kind]) {
			out = append(out, append([]impl.Cell{tmOf(kind)}, behind...))
		}
	}
	return out
}

// allRows tells all rows of so many terms, of so many cells in all.
func allRows(cells int, vars int, terms int) [][]impl.Cell {
	if terms == 1 && cells > 0 {
		return allTerms(cells, vars)
	}
	var out [][]impl.Cell
	for first := 1; first <= cells-terms+1; first++ {
		for _, a := range allTerms(first, vars) {
			for _, b := range allRows(cells-first, vars, terms-1) {
				out = append(out, slices.Concat(a, b))
			}
		}
	}
	return out
}

func upToCells(most int, vars int) [][]impl.Cell {
	var out [][]impl.Cell
	for cells := 1; cells <= most; cells++ {
		out = append(out, allTerms(cells, vars)...)
	}
	return out
}

// drawTerm tells a term of just so many cells (one more or less where no kind fits), with variables below far.
func drawTerm(d *draw, cells int, far int) []impl.Cell {
	if cells <= 1 {
		if d.below(5) == 0 {
			return []impl.Cell{tmNum(d.below(2000001) - 1000000)}
		}
		return []impl.Cell{tmVar(d.below(far))}
	}
	kind := []int{impl.TmLam, impl.TmLam, impl.TmApp, impl.TmAdd, impl.TmLet, impl.TmLet, impl.TmIf}[d.below(7)]
	if partsOfKind[kind] > cells-1 {
		kind = impl.TmLam
	}
	out := []impl.Cell{tmOf(kind)}
	left := cells - 1
	for more := partsOfKind[kind] - 1; more >= 0; more-- {
		size := left
		if more > 0 {
			size = 1 + d.below(left-more)
		}
		out = append(out, drawTerm(d, size, far)...)
		left -= size
	}
	return out
}

// lams tells a term under so many TmLam.
func lams(n int, in ...impl.Cell) []impl.Cell {
	return append(slices.Repeat([]impl.Cell{tmOf(impl.TmLam)}, n), in...)
}

// longTerm tells a term of just so many cells without a variable: an odd count of TmAdd and numbers, ahead of it a TmLam where it is even.
func longTerm(cells int) []impl.Cell {
	out := lams((cells + 1) % 2)
	for len(out) < cells-1 {
		out = append(out, tmOf(impl.TmAdd), tmNum(1))
	}
	return append(out, tmNum(1))
}

func wrongTerms() [][]impl.Cell {
	v, lam, app := tmVar(0), tmOf(impl.TmLam), tmOf(impl.TmApp)
	out := [][]impl.Cell{nil, {}, {lam}, {app}, {app, v}, {v, v}, {lam, v, v}, {app, v, v, v}, {tmOf(impl.TmIf), v, v}, {tmOf(impl.TmLet), v}, {tmOf(impl.TmAdd), v}, {tmOf(impl.TmIf)}, {tmOf(impl.TmIf), v, v, v, v}, longTerm(601), longTerm(602), lams(600, v), lams(600), longTerm(600)[:599], slices.Repeat([]impl.Cell{v}, 600), slices.Repeat([]impl.Cell{app}, 100000)}
	const most, least = 1<<63 - 1, -1 << 63
	for _, c := range []impl.Cell{{}, tmOf(-1), tmOf(8), tmOf(most), tmOf(least), {Kind: 0, N: 1}, tmVar(-1), tmVar(100), tmVar(most), tmVar(least), tmNum(1000001), tmNum(-1000001), tmNum(most), tmNum(least)} {
		out = append(out, []impl.Cell{c}, []impl.Cell{lam, c}, []impl.Cell{app, c, v}, []impl.Cell{app, v, c}, []impl.Cell{c, v}, []impl.Cell{c, v, v})
	}
	for kind := impl.TmLam; kind <= impl.TmLet; kind++ {
		for _, n := range []int{1, -1, most, least} {
			behind := slices.Repeat([]impl.Cell{v}, partsOfKind[kind])
			out = append(out, append([]impl.Cell{{Kind: kind, N: n}}, behind...))
		}
	}
	return out
}

// sameTerm holds an answer against what is asked for.
func sameTerm(t *testing.T, what string, got []impl.Cell, ok bool, want []impl.Cell, is bool) {
	t.Helper()
	if ok != is || !slices.Equal(got, want) {
		t.Errorf("%s: %q %v, want %q %v", what, textOf(got), ok, textOf(want), is)
	}
}
