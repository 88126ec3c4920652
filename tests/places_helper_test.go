package tests

import (
	"math/big"
	"slices"
	"strconv"
	"strings"
	"testing"

	"loop.example/g00339/impl"
)

// cellsOf reads a tree ahead of what it is of: numbers, and + - * for the operations.
func cellsOf(text string) []impl.TreeCell {
	var out []impl.TreeCell
	for _, word := range strings.Fields(text) {
		if op := opOf(word); op > 0 {
			out = append(out, impl.TreeCell{Op: op})
			continue
		}
		out = append(out, impl.TreeCell{Op: impl.LoadOp, Num: numberOf(word)})
	}
	return out
}

// stepsOf reads code: 3=-7 brings a number to a place, 3=0*1 what is in two places.
func stepsOf(text string) []impl.Code {
	var out []impl.Code
	for _, word := range strings.Fields(text) {
		to, from, _ := strings.Cut(word, "=")
		step := impl.Code{Op: impl.LoadOp, To: numberOf(to)}
		if at := strings.IndexAny(from[1:], "+-*") + 1; at > 0 {
			step.Op, step.A, step.B = opOf(from[at:at+1]), numberOf(from[:at]), numberOf(from[at+1:])
		} else {
			step.Num = numberOf(from)
		}
		out = append(out, step)
	}
	return out
}

// rightsOf reads truths, one a byte: r for what is done second first, . for what is not.
func rightsOf(text string) []bool {
	out := make([]bool, len(text))
	for k := range out {
		out[k] = text[k] == 'r'
	}
	return out
}

func opOf(word string) int {
	switch word {
	case "+":
		return impl.AddOp
	case "-":
		return impl.SubOp
	case "*":
		return impl.MulOp
	}
	return 0
}

func numberOf(word string) int {
	n, err := strconv.Atoi(word)
	if err != nil {
		panic(err)
	}
	return n
}

// An opTree is a good tree, its parts linked; at is its place among the cells.
type opTree struct {
	cell          impl.TreeCell
	at            int
	first, second *opTree
}

func opTreeOf(t []impl.TreeCell) *opTree {
	x, behind := opTreeAt(t, 0)
	if behind != len(t) {
		panic("not one tree")
	}
	return x
}

func opTreeAt(t []impl.TreeCell, at int) (*opTree, int) {
	x, behind := &opTree{cell: t[at], at: at}, at+1
	if x.cell.Op != impl.LoadOp {
		x.first, behind = opTreeAt(t, behind)
		x.second, behind = opTreeAt(t, behind)
	}
	return x, behind
}

// plainIsTree takes one tree off the front, if there is one, and tells what is behind it.
func plainIsTree(t []impl.TreeCell) ([]impl.TreeCell, bool) {
	if len(t) == 0 {
		return nil, false
	}
	switch t[0].Op {
	case impl.LoadOp:
		return t[1:], -1000 <= t[0].Num && t[0].Num <= 1000
	case impl.AddOp, impl.SubOp, impl.MulOp:
		rest, is := plainIsTree(t[1:])
		if !is || t[0].Num != 0 {
			return nil, false
		}
		return plainIsTree(rest)
	}
	return nil, false
}

func plainGoodTree(t []impl.TreeCell) bool {
	if len(t) > 40 {
		return false
	}
	rest, is := plainIsTree(t)
	return is && len(rest) == 0
}

// value works with whole numbers of any size; only what it comes to is taken by the modulus.
func (x *opTree) value() *big.Int {
	if x.first == nil {
		return big.NewInt(int64(x.cell.Num))
	}
	return bigOf(x.cell.Op, x.first.value(), x.second.value())
}

func bigOf(op int, a, b *big.Int) *big.Int {
	switch op {
	case impl.AddOp:
		return new(big.Int).Add(a, b)
	case impl.SubOp:
		return new(big.Int).Sub(a, b)
	}
	return new(big.Int).Mul(a, b)
}

func plainModulo(n *big.Int) int {
	return int(new(big.Int).Mod(n, big.NewInt(1000003)).Int64())
}

// fewest takes the better one of both orders at each operation.
func (x *opTree) fewest() int {
	if x.first == nil {
		return 1
	}
	a, b := x.first.fewest(), x.second.fewest()
	return min(max(a, b+1), max(b, a+1))
}

// code tells the steps in the order that rights tells, and the greatest place that they set.
func (x *opTree) code(rights []bool, to int) ([]impl.Code, int) {
	if x.first == nil {
		return []impl.Code{{Op: impl.LoadOp, To: to, Num: x.cell.Num}}, to
	}
	step := impl.Code{Op: x.cell.Op, To: to, A: to, B: to + 1}
	ahead, later := x.first, x.second
	if rights[x.at] {
		step.A, step.B = step.B, step.A
		ahead, later = later, ahead
	}
	one, oneMost := ahead.code(rights, to)
	two, twoMost := later.code(rights, to+1)
	return append(append(one, two...), step), max(oneMost, twoMost)
}

// rightsFor tells at which cells the second tree needs more places than the first one.
func (x *opTree) rightsFor(rights []bool) {
	if x.first != nil {
		rights[x.at] = x.second.fewest() > x.first.fewest()
		x.first.rightsFor(rights)
		x.second.rightsFor(rights)
	}
}

// plainIsCode tells whether code is as RunCode asks.
func plainIsCode(l []impl.Code) bool {
	isPlace := func(n int) bool { return 0 <= n && n <= 39 }
	isSet := map[int]int{}
	for _, s := range l {
		if s.Op < 1 || s.Op > 4 || !isPlace(s.To) || !isPlace(s.A) || !isPlace(s.B) {
			return false
		}
		if s.Op == impl.LoadOp && (s.A != 0 || s.B != 0) || s.Op != impl.LoadOp && (s.Num != 0 || isSet[s.A] == 0 || isSet[s.B] == 0) {
			return false
		}
		isSet[s.To] = 1
	}
	return len(l) >= 1 && len(l) <= 60
}

// plainRunCode keeps in each place the last remainder as a whole number of any size.
func plainRunCode(l []impl.Code) (int, int) {
	in := map[int]*big.Int{}
	greatest, last := 0, 0
	for _, s := range l {
		n := big.NewInt(int64(s.Num))
		if s.Op != impl.LoadOp {
			n = bigOf(s.Op, in[s.A], in[s.B])
		}
		last = plainModulo(n)
		in[s.To] = big.NewInt(int64(last))
		greatest = max(greatest, s.To, s.A, s.B)
	}
	return last, greatest + 1
}

// plainHolds tells whether a place holds, behind a step, what a later one uses, or what is the last step's.
func plainHolds(l []impl.Code, step, place int) bool {
	for _, s := range l[step+1:] {
		if s.Op != impl.LoadOp && (s.A == place || s.B == place) {
			return true
		}
		if s.To == place {
			return false
		}
	}
	return step == len(l)-1 && l[step].To == place
}

func plainMostHeld(l []impl.Code) int {
	most := 0
	for step := range l {
		count := 0
		for place := range 40 {
			if plainHolds(l, step, place) {
				count++
			}
		}
		most = max(most, count)
	}
	return most
}

// allOpTrees hands on each tree with so many numbers and operations; each cell is new.
func allOpTrees(numbers int, ops []int, nums []int, each func(t []impl.TreeCell)) {
	if numbers == 1 {
		for _, n := range nums {
			each([]impl.TreeCell{{Op: impl.LoadOp, Num: n}})
		}
		return
	}
	for left := 1; left < numbers; left++ {
		for _, op := range ops {
			allOpTrees(left, ops, nums, func(a []impl.TreeCell) {
				allOpTrees(numbers-left, ops, nums, func(b []impl.TreeCell) {
					each(slices.Concat([]impl.TreeCell{{Op: op}}, a, b))
				})
			})
		}
	}
}

// allOpShapes hands on each shape of a tree with so many numbers.
func allOpShapes(numbers int, each func(t []impl.TreeCell)) {
	allOpTrees(numbers, []int{impl.SubOp}, []int{7}, each)
}

// drawOpTree draws a tree with so many numbers: of even parts, of any, or nearly a chain to one side.
func drawOpTree(r *draw, numbers int) []impl.TreeCell {
	if numbers == 1 {
		n := r.below(2001) - 1000
		if r.below(4) == 0 {
			n = []int{-1000, 1000, -1, 0, 1}[r.below(5)]
		}
		return []impl.TreeCell{{Op: impl.LoadOp, Num: n}}
	}
	left := 1 + r.below(numbers-1)
	switch r.below(4) {
	case 0:
		left = numbers / 2
	case 1:
		left = min(left, 2)
	case 2:
		left = max(left, numbers-2)
	}
	return slices.Concat([]impl.TreeCell{{Op: impl.AddOp + r.below(3)}}, drawOpTree(r, left), drawOpTree(r, numbers-left))
}

// drawCells draws a good tree of any count of cells.
func drawCells(r *draw) []impl.TreeCell {
	return drawOpTree(r, 1+r.below(20))
}

func drawRights(r *draw, cells int) []bool {
	out := make([]bool, cells)
	for k := range out {
		out[k] = r.below(2) == 0
	}
	return out
}

// drawSteps draws code as RunCode asks, on few places or many, with numbers of any size.
func drawSteps(r *draw) []impl.Code {
	var out []impl.Code
	var set []int
	places, loads := 1+r.below(40), 2+r.below(6)
	for range 1 + r.below(60) {
		s := impl.Code{Op: impl.LoadOp, To: r.below(places)}
		switch {
		case len(set) > 0 && r.below(loads) > 0:
			s.Op, s.A, s.B = impl.AddOp+r.below(3), set[r.below(len(set))], set[r.below(len(set))]
		case r.below(8) == 0:
			s.Num = []int{1<<63 - 1, -1 << 63, 1000003, 1000002, -1000003, -1, 1 << 40}[r.below(7)]
		default:
			s.Num = r.below(2001) - 1000
		}
		if !slices.Contains(set, s.To) {
			set = append(set, s.To)
		}
		out = append(out, s)
	}
	return out
}

func checkCellsKept(t *testing.T, cells, kept []impl.TreeCell) {
	t.Helper()
	if !slices.Equal(cells, kept) {
		t.Errorf("changed: %v, was %v", cells, kept)
	}
}

func checkGoodTree(t *testing.T, cells []impl.TreeCell, want bool) {
	t.Helper()
	kept := slices.Clone(cells)
	if got := impl.GoodTree(cells); got != want {
		t.Errorf("GoodTree(%v): %v", cells, got)
	}
	checkCellsKept(t, cells, kept)
}

func checkPlacesFor(t *testing.T, cells []impl.TreeCell, want int, is bool) {
	t.Helper()
	kept := slices.Clone(cells)
	if got, ok := impl.PlacesFor(cells); got != want || ok != is {
		t.Errorf("PlacesFor(%v): %v %v, want %v %v", cells, got, ok, want, is)
	}
	checkCellsKept(t, cells, kept)
}

func checkTreeValue(t *testing.T, cells []impl.TreeCell, want int, is bool) {
	t.Helper()
	kept := slices.Clone(cells)
	if got, ok := impl.ValueOf(cells); got != want || ok != is {
		t.Errorf("ValueOf(%v): %v %v, want %v %v", cells, got, ok, want, is)
	}
	checkCellsKept(t, cells, kept)
}

func checkCodeFor(t *testing.T, cells []impl.TreeCell, want []impl.Code, places int, is bool) {
	t.Helper()
	kept := slices.Clone(cells)
	if got, n, ok := impl.CodeFor(cells); !slices.Equal(got, want) || n != places || ok != is {
		t.Errorf("CodeFor(%v): %v %v %v, want %v %v %v", cells, got, n, ok, want, places, is)
	}
	checkCellsKept(t, cells, kept)
}

func checkCodeBy(t *testing.T, cells []impl.TreeCell, rights []bool, want []impl.Code, places int, is bool) {
	t.Helper()
	kept, rightsKept := slices.Clone(cells), slices.Clone(rights)
	if got, n, ok := impl.CodeBy(cells, rights); !slices.Equal(got, want) || n != places || ok != is {
		t.Errorf("CodeBy(%v, %v): %v %v %v, want %v %v %v", cells, rights, got, n, ok, want, places, is)
	}
	checkCellsKept(t, cells, kept)
	if !slices.Equal(rights, rightsKept) {
		t.Errorf("changed: %v, was %v", rights, rightsKept)
	}
}

func checkRunCode(t *testing.T, steps []impl.Code, want int, places int, is bool) {
	t.Helper()
	kept := slices.Clone(steps)
	if got, n, ok := impl.RunCode(steps); got != want || n != places || ok != is {
		t.Errorf("RunCode(%v): %v %v %v, want %v %v %v", steps, got, n, ok, want, places, is)
	}
	if !slices.Equal(steps, kept) {
		t.Errorf("changed: %v, was %v", steps, kept)
	}
}

func checkMostHeld(t *testing.T, steps []impl.Code, want int, is bool) {
	t.Helper()
	kept := slices.Clone(steps)
	if got, ok := impl.MostHeld(steps); got != want || ok != is {
		t.Errorf("MostHeld(%v): %v %v, want %v %v", steps, got, ok, want, is)
	}
	if !slices.Equal(steps, kept) {
		t.Errorf("changed: %v, was %v", steps, kept)
	}
}

// checkPlacedCode holds what is told of code against the plain words.
func checkPlacedCode(t *testing.T, steps []impl.Code) {
	t.Helper()
	if !plainIsCode(steps) {
		checkPlacedCodeRefused(t, steps)
		return
	}
	value, places := plainRunCode(steps)
	checkRunCode(t, steps, value, places, true)
	checkMostHeld(t, steps, plainMostHeld(steps), true)
}

func checkPlacedCodeRefused(t *testing.T, steps []impl.Code) {
	t.Helper()
	checkRunCode(t, steps, 0, 0, false)
	checkMostHeld(t, steps, 0, false)
}

// checkOrder holds the code of a good tree in one order against the plain words.
func checkOrder(t *testing.T, cells []impl.TreeCell, rights []bool) {
	t.Helper()
	steps, greatest := opTreeOf(cells).code(rights, 0)
	checkCodeBy(t, cells, rights, steps, greatest+1, true)
}

// checkCells holds all that is told of a good tree alone against the plain words.
func checkCells(t *testing.T, cells []impl.TreeCell) {
	t.Helper()
	checkGoodTree(t, cells, true)
	x := opTreeOf(cells)
	checkPlacesFor(t, cells, x.fewest(), true)
	checkTreeValue(t, cells, plainModulo(x.value()), true)
	rights := make([]bool, len(cells))
	x.rightsFor(rights)
	steps, greatest := x.code(rights, 0)
	checkCodeFor(t, cells, steps, greatest+1, true)
}

// checkCellsRefused asks each function of a tree that is not good.
func checkCellsRefused(t *testing.T, cells []impl.TreeCell) {
	t.Helper()
	checkGoodTree(t, cells, false)
	checkPlacesFor(t, cells, 0, false)
	checkTreeValue(t, cells, 0, false)
	checkCodeFor(t, cells, nil, 0, false)
	for _, rights := range [][]bool{nil, {}, {true}, make([]bool, len(cells)), make([]bool, len(cells)+1), make([]bool, 40)} {
		checkCodeBy(t, cells, rights, nil, 0, false)
	}
}
