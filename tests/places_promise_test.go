package tests

import (
	"slices"
	"testing"

	"loop.example/g00339/impl"
)

// checkPromise13 holds what is made of a tree against its value and its places; it tells both.
func checkPromise13(t *testing.T, cells []impl.TreeCell) (int, int) {
	t.Helper()
	value, hasValue := impl.ValueOf(cells)
	fewest, hasPlaces := impl.PlacesFor(cells)
	steps, places, ok := impl.CodeFor(cells)
	if !hasValue || !hasPlaces || !ok || places != fewest {
		t.Fatalf("%v: %d %v %d %v; CodeFor tells %d %v", cells, value, hasValue, fewest, hasPlaces, places, ok)
	}
	if got, used, ok := impl.RunCode(steps); got != value || used != fewest || !ok {
		t.Fatalf("%v: %v comes to %d by %d places (%v), not to %d by %d", cells, steps, got, used, ok, value, fewest)
	}
	if held, ok := impl.MostHeld(steps); held != fewest || !ok {
		t.Fatalf("%v: %v holds %d (%v), not %d", cells, steps, held, ok, fewest)
	}
	return value, fewest
}

// checkOtherOrder: in any order a tree comes to the same, by no fewer places; it tells by how many.
func checkOtherOrder(t *testing.T, cells []impl.TreeCell, rights []bool, value, fewest int) int {
	t.Helper()
	steps, places, ok := impl.CodeBy(cells, rights)
	if !ok || places < fewest {
		t.Fatalf("%v by %v: %d places (%v), fewer than %d", cells, rights, places, ok, fewest)
	}
	if got, used, ok := impl.RunCode(steps); got != value || used != places || !ok {
		t.Fatalf("%v by %v: %v comes to %d by %d places (%v), not to %d by %d", cells, rights, steps, got, used, ok, value, places)
	}
	if held, ok := impl.MostHeld(steps); held < fewest || !ok {
		t.Fatalf("%v by %v: %v holds %d (%v), fewer than %d", cells, rights, steps, held, ok, fewest)
	}
	return places
}

// checkAllOrders asks each order of a tree's parts; one of them must do with as many as are told.
func checkAllOrders(t *testing.T, cells []impl.TreeCell) {
	t.Helper()
	value, fewest := checkPromise13(t, cells)
	least := len(cells)
	var turn func(rights []bool, at int)
	turn = func(rights []bool, at int) {
		if at == len(cells) {
			least = min(least, checkOtherOrder(t, cells, rights, value, fewest))
			return
		}
		turn(rights, at+1)
		if cells[at].Op != impl.LoadOp {
			turned := slices.Clone(rights)
			turned[at] = true
			turn(turned, at+1)
		}
	}
	turn(make([]bool, len(cells)), 0)
	if least != fewest {
		t.Fatalf("%v: %d places are told, but no order does with fewer than %d", cells, fewest, least)
	}
}

func TestPromise13OfAllSmallTrees(t *testing.T) {
	ops := []int{impl.AddOp, impl.SubOp, impl.MulOp}
	for numbers := 1; numbers <= 4; numbers++ {
		nums := []int{-1000, 7}
		if numbers < 4 {
			nums = []int{-1000, -1, 0, 1, 1000}
		}
		allOpTrees(numbers, ops, nums, func(cells []impl.TreeCell) { checkAllOrders(t, cells) })
	}
	for numbers := 5; numbers <= 7; numbers++ {
		k := 0
		allOpShapes(numbers, func(cells []impl.TreeCell) {
			for at := range cells {
				k++
				if cells[at].Op == impl.LoadOp {
					cells[at].Num = k*37%2001 - 1000
				} else {
					cells[at].Op = ops[k%3]
				}
			}
			checkAllOrders(t, cells)
		})
	}
}

func TestPromise13Drawn(t *testing.T) {
	r := draw(1306)
	more := 0
	for range 3000 {
		cells := drawCells(&r)
		value, fewest := checkPromise13(t, cells)
		for range 10 {
			if checkOtherOrder(t, cells, drawRights(&r, len(cells)), value, fewest) > fewest {
				more++
			}
		}
	}
	if more < 3000 {
		t.Errorf("too few orders that need more: %d", more)
	}
}

// eachRow hands on each row of a tree's cells in which all of a cell's parts are ahead of it, however they are mixed.
func eachRow(x *opTree, each func(row []*opTree)) {
	if x.first == nil {
		each([]*opTree{x})
		return
	}
	eachRow(x.first, func(a []*opTree) {
		eachRow(x.second, func(b []*opTree) {
			mixed(nil, a, b, func(row []*opTree) { each(append(slices.Clone(row), x)) })
		})
	})
}

// mixed hands on each row that has those of a in their order, and those of b in theirs.
func mixed(row, a, b []*opTree, each func(row []*opTree)) {
	if len(a) == 0 || len(b) == 0 {
		each(slices.Concat(row, a, b))
		return
	}
	mixed(append(slices.Clone(row), a[0]), a[1:], b, each)
	mixed(append(slices.Clone(row), b[0]), a, b[1:], each)
}

// ownPlaces makes code of a row, each cell with a place of its own.
func ownPlaces(row []*opTree) []impl.Code {
	var out []impl.Code
	for _, x := range row {
		step := impl.Code{Op: x.cell.Op, To: x.at, Num: x.cell.Num}
		if x.first != nil {
			step.A, step.B = x.first.at, x.second.at
		}
		out = append(out, step)
	}
	return out
}

// TestNoMixedOrderHoldsFewer: not even parts whose steps are mixed, each part begun ahead of the other's end, hold fewer places at once than are told.
func TestNoMixedOrderHoldsFewer(t *testing.T) {
	rows := 0
	for numbers := 1; numbers <= 5; numbers++ {
		allOpShapes(numbers, func(cells []impl.TreeCell) {
			value, fewest := checkPromise13(t, cells)
			least := len(cells)
			eachRow(opTreeOf(cells), func(row []*opTree) {
				rows++
				steps := ownPlaces(row)
				held, ok := impl.MostHeld(steps)
				if got, _, is := impl.RunCode(steps); !ok || !is || got != value {
					t.Fatalf("%v: %v comes to %d (%v %v), not to %d", cells, steps, got, ok, is, value)
				}
				least = min(least, held)
			})
			if least != fewest {
				t.Fatalf("%v: %d places are told, but the fewest that any row holds are %d", cells, fewest, least)
			}
		})
	}
	if rows < 2000 {
		t.Errorf("too few rows: %d", rows)
	}
}
