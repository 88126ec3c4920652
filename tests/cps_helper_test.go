package tests

import (
	"slices"
	"strings"

	"loop.example/g00339/impl"
)

// How many cells are made of one cell of each kind, those of its parts not counted.
var handedCells = map[int]int{impl.TmVar: 4, impl.TmNum: 4, impl.TmLam: 4, impl.TmApp: 10, impl.TmAdd: 10, impl.TmIf: 9, impl.TmLet: 5}

func plainHandedSize(l []impl.Cell) int {
	size := 0
	for _, c := range l {
		size += handedCells[c.Kind]
	}
	return size
}

// filled reads a text in which each K stands for one of the parts, in their order.
func filled(text string, parts ...[]impl.Cell) []impl.Cell {
	var out []impl.Cell
	for i, piece := range strings.Split(text, "K") {
		if i > 0 {
			out = append(out, parts[i-1]...)
		}
		out = append(out, termOf(piece)...)
	}
	return out
}

// movedAhead tells the term at the front with each variable that means one from from on, seen from outside, by more, and the cells behind it.
func movedAhead(l []impl.Cell, by, from int) ([]impl.Cell, []impl.Cell) {
	out, rest := []impl.Cell{l[0]}, l[1:]
	if l[0].Kind == impl.TmVar && l[0].N >= from {
		out[0].N += by
	}
	for i := range partsOfKind[l[0].Kind] {
		var one []impl.Cell
		if l[0].Kind == impl.TmLam || l[0].Kind == impl.TmLet && i == 1 {
			one, rest = movedAhead(rest, by, from+1)
		} else {
			one, rest = movedAhead(rest, by, from)
		}
		out = append(out, one...)
	}
	return out, rest
}

func moved(l []impl.Cell, by, from int) []impl.Cell {
	out, _ := movedAhead(l, by, from)
	return out
}

// plainHandedAhead makes each part by itself, as if it stood alone, and moves its variables when it is put in its place.
func plainHandedAhead(l []impl.Cell) ([]impl.Cell, []impl.Cell) {
	var of [3][]impl.Cell
	rest := l[1:]
	for i := range partsOfKind[l[0].Kind] {
		of[i], rest = plainHandedAhead(rest)
	}
	e, f, g := of[0], of[1], of[2]
	switch l[0].Kind {
	case impl.TmVar:
		return filled("\\ @ v0 K", moved(l[:1], 1, 0)), rest
	case impl.TmLam:
		return filled("\\ @ v0 \\ K", moved(e, 1, 1)), rest
	case impl.TmAdd:
		return filled("\\ @ K \\ @ K \\ @ v2 + v1 v0", moved(e, 1, 0), moved(f, 2, 0)), rest
	case impl.TmApp:
		return filled("\\ @ K \\ @ K \\ @ @ v1 v0 v2", moved(e, 1, 0), moved(f, 2, 0)), rest
	case impl.TmIf:
		return filled("\\ @ K \\ ? v0 @ K v1 @ K v1", moved(e, 1, 0), moved(f, 2, 0), moved(g, 2, 0)), rest
	case impl.TmLet:
		return filled("\\ @ K \\ @ K v1", moved(e, 1, 0), moved(f, 1, 1)), rest
	}
	return filled("\\ @ v0 K", l[:1]), rest
}

func plainHanded(l []impl.Cell) []impl.Cell {
	out, _ := plainHandedAhead(l)
	return out
}

// handedToRun tells the term that RunHanded runs.
func handedToRun(l []impl.Cell) []impl.Cell {
	return filled("@ K \\ v0", plainHanded(l))
}

// termsToHand tells those of termsToRun that have at most 40 cells.
func termsToHand() [][]impl.Cell {
	return slices.DeleteFunc(termsToRun(), func(l []impl.Cell) bool { return len(l) > 40 })
}

// plainReady tells whether what is handed on may be so without more to be done.
func (x *named) plainReady() bool {
	switch x.kind {
	case impl.TmVar, impl.TmNum, impl.TmLam:
		return true
	case impl.TmAdd:
		return x.parts[0].plainReady() && x.parts[1].plainReady()
	}
	return false
}

func (x *named) plainIsHanded() bool {
	for _, part := range x.parts {
		if !part.plainIsHanded() {
			return false
		}
	}
	switch x.kind {
	case impl.TmLet:
		return false
	case impl.TmIf:
		return x.parts[0].plainReady()
	case impl.TmAdd:
		return x.plainReady()
	case impl.TmApp:
		return x.parts[1].plainReady()
	}
	return true
}

// counting tells a closed term that counts down from a number, and comes to what last tells, where v0 is 0; so many TmLet are on each way round.
func counting(from int, lets int, last string) []impl.Cell {
	count := []impl.Cell{tmNum(from)}
	padding := slices.Repeat(termOf("= 1"), lets)
	self := []impl.Cell{tmVar(1 + lets)}
	down := []impl.Cell{tmVar(lets)}
	return filled("= \\ \\ ? v0 K K @ @ K K + K -1 @ @ v0 v0 K", termOf(last), padding, self, self, down, count)
}
