package tests

import (
	"slices"
	"testing"

	"loop.example/g00339/impl"
)

func TestPlacesConstants(t *testing.T) {
	if impl.MaxTree != 40 || impl.LoadOp != 1 || impl.AddOp != 2 || impl.SubOp != 3 || impl.MulOp != 4 {
		t.Errorf("%d %d %d %d %d", impl.MaxTree, impl.LoadOp, impl.AddOp, impl.SubOp, impl.MulOp)
	}
}

func TestGoodTreeByHand(t *testing.T) {
	for _, text := range []string{
		"0", "1", "-1", "1000", "-1000", "+ 1 2", "- 0 0", "* -1000 1000", "+ + 1 2 3", "+ 1 + 2 3", "* + 1 2 - 3 4", "- * + 1 2 3 4", "- 9 * + 1 2 4", "+ 1 - 2 * 3 4", "* - + 1 2 + 3 4 - 5 6",
	} {
		checkCells(t, cellsOf(text))
	}
}

// opChain makes a tree with so many numbers, each operation with a number on its one side.
func opChain(numbers int, left bool) []impl.TreeCell {
	out := cellsOf("1")
	for k := 2; k <= numbers; k++ {
		one := []impl.TreeCell{{Op: impl.LoadOp, Num: k}}
		if left {
			out = slices.Concat(cellsOf("+"), out, one)
		} else {
			out = slices.Concat(cellsOf("+"), one, out)
		}
	}
	return out
}

// opFull makes a tree whose parts are both full ones, so many deep.
func opFull(deep int) []impl.TreeCell {
	if deep == 0 {
		return cellsOf("3")
	}
	return slices.Concat(cellsOf("-"), opFull(deep-1), opFull(deep-1))
}

// TestGoodTreeCounts: trees have 1 to 39 cells, since they have one number more than operations; no 40 cells are one tree, nor are more.
func TestGoodTreeCounts(t *testing.T) {
	for numbers := 1; numbers <= 40; numbers++ {
		for _, left := range []bool{false, true} {
			cells := opChain(numbers, left)
			if len(cells) <= impl.MaxTree {
				checkCells(t, cells)
			} else {
				checkCellsRefused(t, cells)
			}
			checkCellsRefused(t, append(slices.Clone(cells), impl.TreeCell{Op: impl.LoadOp}))
			checkCellsRefused(t, append(slices.Clone(cells), impl.TreeCell{Op: impl.AddOp}))
			checkCellsRefused(t, cells[:len(cells)-1])
			checkCellsRefused(t, slices.Concat(cellsOf("+"), cells))
			checkCellsRefused(t, slices.Concat(cellsOf("0"), cells))
		}
	}
	for deep := range 8 {
		if deep <= 4 {
			checkCells(t, opFull(deep))
		} else {
			checkCellsRefused(t, opFull(deep))
		}
	}
	for cells := range 50 {
		if cells != 1 {
			checkCellsRefused(t, make([]impl.TreeCell, cells))
			checkCellsRefused(t, slices.Repeat(cellsOf("5"), cells))
			checkCellsRefused(t, slices.Repeat(cellsOf("*"), cells))
		}
	}
	checkCellsRefused(t, slices.Repeat(cellsOf("5"), 100000))
	checkCellsRefused(t, slices.Repeat(cellsOf("*"), 100000))
	checkCellsRefused(t, opChain(2000, true))
	checkCellsRefused(t, opChain(2000, false))
}

func TestTreesOfNoCells(t *testing.T) {
	checkCellsRefused(t, nil)
	checkCellsRefused(t, []impl.TreeCell{})
}

func TestTreesTooFewOrTooMany(t *testing.T) {
	for _, text := range []string{
		"+", "+ 1", "+ 1 2 3", "1 2", "1 + 2 3", "+ + 1 2", "+ 1 + 2", "+ 1 2 + 3 4", "- * 1 2", "* 1 2 -", "1 -", "1 2 +", "+ + +", "+ 1 + 2 3 4", "* + 1 2 - 3", "* + 1 2 - 3 4 5", "1 2 * 3 4 +", "+ 1 2 -",
	} {
		checkCellsRefused(t, cellsOf(text))
	}
}

// TestTreesOfWrongNumbers sets each number, at each place, to such as are good there and such as are not.
func TestTreesOfWrongNumbers(t *testing.T) {
	for _, text := range []string{"5", "+ 1 2", "- + 1 2 * 3 4", "* 1 - 2 + 3 4"} {
		for at := range cellsOf(text) {
			for _, n := range []int{-1 << 63, -1 << 32, -1000000, -1002, -1001, -1000, -999, -1, 0, 1, 999, 1000, 1001, 1002, 1000003, 1 << 32, 1<<63 - 1} {
				cells := cellsOf(text)
				isLoad := cells[at].Op == impl.LoadOp
				cells[at].Num = n
				if n == 0 || isLoad && n >= -1000 && n <= 1000 {
					checkCells(t, cells)
				} else {
					checkCellsRefused(t, cells)
				}
			}
		}
	}
}

func TestTreesOfWrongOperations(t *testing.T) {
	for _, text := range []string{"5", "0", "+ 0 0", "- + 1 2 * 3 4", "* 1 - 2 + 3 4"} {
		for at, cell := range cellsOf(text) {
			for _, op := range []int{-1 << 63, -4, -3, -2, -1, 0, 5, 6, 7, 8, 257, 258, 259, 260, 1 << 32, 1<<32 + 1, 1<<32 + 2, 1<<63 - 1} {
				cells := cellsOf(text)
				cells[at].Op = op
				checkCellsRefused(t, cells)
			}
			for op := impl.LoadOp; op <= impl.MulOp; op++ {
				cells := cellsOf(text)
				cells[at].Op = op
				if (op == impl.LoadOp) == (cell.Op == impl.LoadOp) {
					checkCells(t, cells)
				} else {
					checkCellsRefused(t, cells)
				}
			}
		}
	}
}

// TestAllRowsOfCells asks of each row of few cells whether it is a tree.
func TestAllRowsOfCells(t *testing.T) {
	rows, good := [][]impl.TreeCell{nil}, 0
	for range 7 {
		var longer [][]impl.TreeCell
		for _, row := range rows {
			for _, cell := range []impl.TreeCell{{Op: impl.LoadOp}, {Op: impl.SubOp}, {}, {Op: impl.MulOp, Num: 1}} {
				next := append(slices.Clone(row), cell)
				longer = append(longer, next)
				want := plainGoodTree(next)
				if got := impl.GoodTree(next); got != want {
					t.Fatalf("GoodTree(%v): %v", next, got)
				}
				if want {
					good++
				}
			}
		}
		rows = longer
	}
	if good != 1+1+2+5 {
		t.Errorf("%d trees among them", good)
	}
}
