package tests

import (
	"slices"

	"loop.example/g00339/impl"
)

// drawClosed tells a term of about so many cells without free variables.
func drawClosed(d *draw, cells int) []impl.Cell {
	for {
		l := drawTerm(d, cells, 1+d.below(4))
		if len(plainFree(l)) == 0 {
			return l
		}
	}
}

// A known variable has a type, or is one of TmLet that may be used at many types.
type knownVar struct {
	is    *plainTy
	often string
}

// What TmLet binds, and a term that comes to a type by it: f stands for the variable, a for a term of that type, b for one of any type, g for a function from that type to it.
var usedOften = map[string]string{
	"\\ v0":              "@ f a",
	"\\ \\ v1":           "@ @ f a b",
	"\\ \\ v0":           "@ @ f b a",
	"\\ \\ @ v1 v0":      "@ @ f g a",
	"\\ \\ @ v1 @ v1 v0": "@ @ f g a",
	"\\ \\ @ v0 v1":      "@ @ f a g",
}

func oftenBound() []string {
	var out []string
	for what := range usedOften {
		out = append(out, what)
	}
	slices.Sort(out)
	return out
}

// drawOfType tells a term that has a type without variables, in which half of what TmLet binds is used at many types.
func drawOfType(d *draw, is *plainTy, around []knownVar, deep int) []impl.Cell {
	if d.below(2) == 0 {
		if l := drawKnown(d, is, around, deep); l != nil {
			return l
		}
	}
	if deep <= 0 || d.below(4) == 0 {
		return plainestOf(d, is, around, deep)
	}
	one := func(ty *plainTy) []impl.Cell { return drawOfType(d, ty, around, deep-1) }
	switch d.below(6) {
	case 0:
		return slices.Concat(termOf("?"), one(numTy()), one(is), one(is))
	case 1:
		other := drawGround(d)
		return slices.Concat(termOf("@"), one(funTy(other, is)), one(other))
	case 2:
		other := drawGround(d)
		return slices.Concat(termOf("="), one(other), drawOfType(d, is, append(slices.Clone(around), knownVar{is: other}), deep-1))
	case 3, 4:
		often := oftenBound()
		what := often[d.below(len(often))]
		return slices.Concat(termOf("="), termOf(what), drawOfType(d, is, append(slices.Clone(around), knownVar{often: what}), deep-1))
	}
	return plainestOf(d, is, around, deep)
}

func plainestOf(d *draw, is *plainTy, around []knownVar, deep int) []impl.Cell {
	if is.kind == impl.TyFun {
		return append(termOf("\\"), drawOfType(d, is.to, append(slices.Clone(around), knownVar{is: is.from}), deep-1)...)
	}
	if deep > 0 && d.below(2) == 0 {
		return slices.Concat(termOf("+"), drawOfType(d, is, around, deep-1), drawOfType(d, is, around, deep-1))
	}
	return []impl.Cell{tmNum(d.below(3))}
}

// drawKnown tells a term of a type by a variable around, or nil.
func drawKnown(d *draw, is *plainTy, around []knownVar, deep int) []impl.Cell {
	var fit []int
	for i, v := range around {
		if v.often != "" && deep > 0 || v.often == "" && v.is.text() == is.text() {
			fit = append(fit, i)
		}
	}
	if len(fit) == 0 {
		return nil
	}
	at := fit[d.below(len(fit))]
	v := tmVar(len(around) - 1 - at)
	if around[at].often == "" {
		return []impl.Cell{v}
	}
	var out []impl.Cell
	for _, c := range usedOften[around[at].often] {
		switch c {
		case '@':
			out = append(out, tmOf(impl.TmApp))
		case 'f':
			out = append(out, v)
		case 'a':
			out = append(out, drawOfType(d, is, around, deep-1)...)
		case 'b':
			out = append(out, drawOfType(d, drawGround(d), around, deep-1)...)
		case 'g':
			out = append(out, drawOfType(d, funTy(is, is), around, deep-1)...)
		}
	}
	return out
}

// drawGround tells a small type without variables.
func drawGround(d *draw) *plainTy {
	return drawType(d, 1+d.below(3), 1).with(func(int) *plainTy { return numTy() })
}

type drawnTyped struct {
	l  []impl.Cell
	is *plainTy
}

// typedTerms tells terms of at most 40 cells with a type that they have, maybe not the most general one.
func typedTerms(count int) []drawnTyped {
	d := draw(5555)
	var out []drawnTyped
	for len(out) < count {
		is := drawGround(&d)
		l := drawOfType(&d, is, nil, 2+d.below(7))
		if len(l) > 4 && len(l) <= 40 {
			out = append(out, drawnTyped{l, is})
		}
	}
	return out
}

// termsToType tells all small closed terms, drawn ones, and ones that have a type.
func termsToType() [][]impl.Cell {
	var out [][]impl.Cell
	for cells := 1; cells <= 7; cells++ {
		out = append(out, closedTerms(cells, 0)...)
	}
	d := draw(56)
	for range 6000 {
		out = append(out, drawClosed(&d, 5+d.below(36)))
	}
	for _, one := range typedTerms(4000) {
		out = append(out, one.l)
	}
	return out
}
