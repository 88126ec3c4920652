package tests

import (
	"testing"

	"loop.example/g00339/impl"
)

const eightNames = "0,1,2,3,4,5,6,7"

func TestLiveByHand(t *testing.T) {
	// Of each: the graph, what blocks use, what they set; LiveIn, LiveOut, DeadSets.
	for _, one := range [][6]string{
		// One block, that goes on to none.
		{".", ".", ".", ".", ".", "."},
		{".", "0", ".", "0", ".", "."},
		{".", ".", "0", ".", ".", "0"},
		{".", "0", "0", "0", ".", "0"},
		{".", "1,3", "0,3,7", "1,3", ".", "0,3,7"},
		{".", eightNames, eightNames, eightNames, ".", eightNames},
		// One that goes on to itself.
		{"0", ".", ".", ".", ".", "."},
		{"0", "3", ".", "3", "3", "."},
		{"0", "3", "3", "3", "3", "."},
		{"0", ".", "3", ".", ".", "3"},
		{"0", "1", "2", "1", "1", "2"},
		{"0,1 .", ". 3", "3 .", ". 3", "3 .", ". ."},
		{"0,1 .", "3 .", ". 3", "3 .", "3 .", ". 3"},
		// Straight on.
		{"1 2 .", ". . 0", ". 1 .", "0 0 0", "0 0 .", ". 1 ."},
		{"1 2 .", ". . 0", "0 . .", ". 0 0", "0 0 .", ". . ."},
		{"1 2 .", "0 . 0", ". 0 .", "0 . 0", ". 0 .", ". . ."},
		{"1 2 .", ". . 0", "0 0 .", ". . 0", ". 0 .", "0 . ."},
		{"1 2 .", ". 0 0", "0 0 .", ". 0 0", "0 0 .", ". . ."},
		{"1 2 .", "0 . .", ". . .", "0 . .", ". . .", ". . ."},
		{"1 2 .", ". 0 .", ". . .", "0 0 .", "0 . .", ". . ."},
		{"1 .", ". 0", "0 0", ". 0", "0 .", ". 0"},
		{"1 .", ". " + eightNames, "0,2,4,6 .", "1,3,5,7 " + eightNames, eightNames + " .", ". ."},
		{"1 2 .", "7 6 5", "5 . .", "6,7 5,6 5", "5,6 5 .", ". . ."},
		// Ways that part and join.
		{"1,2 3 3 .", ". 0 1 2", ". . . .", "0,1,2 0,2 1,2 2", "0,1,2 2 2 .", ". . . ."},
		{"1,2 3 3 .", ". . . 0", ". 0 . .", "0 . 0 0", "0 0 0 .", ". . . ."},
		{"1,2 3 3 .", ". . . 0", ". 0 0 .", ". . . 0", ". 0 0 .", ". . . ."},
		{"1,2 3 3 .", ". . . 0", "0 0 0 .", ". . . 0", ". 0 0 .", "0 . . ."},
		{"1,2 3 3 .", ". . . 0", "0 0 . .", ". . 0 0", "0 0 0 .", ". . . ."},
		{"1,2 3 3 .", ". 0 . .", "0 . 0 .", ". 0 . .", "0 . . .", ". . 0 ."},
		{"1,2 . .", ". 0 1", "0,1 . .", ". 0 1", "0,1 . .", ". . ."},
		// Loops.
		{"1 2,3 1 .", ". 0 . .", "0 . 1 .", ". 0 0 .", "0 0 0 .", ". . 1 ."},
		{"1 2,3 1 .", ". 0 . .", "0 . 0 .", ". 0 . .", "0 . 0 .", ". . . ."},
		{"1 2,3 1 .", ". . . 5", "5 . . .", ". 5 5 5", "5 5 5 .", ". . . ."},
		{"1 2,3 1 .", ". . . 5", ". 5 . .", ". . . 5", ". 5 . .", ". . . ."},
		{"1 2,3 1 .", ". . . 5", ". . 5 .", "5 5 . 5", "5 5 5 .", ". . . ."},
		{"1 1,2 .", ". 0 1,2", "0 1 .", "2 0,2 1,2", "0,2 0,1,2 .", ". . ."},
		{"1 0", ". .", ". .", ". .", ". .", ". ."},
		{"1 2 0", "0 1 2", ". . .", "0,1,2 0,1,2 0,1,2", "0,1,2 0,1,2 0,1,2", ". . ."},
		{"1 2 0", "0 1 2", "2 0 1", "0,1 1,2 0,2", "1,2 0,2 0,1", ". . ."},
		{"1,2 2 1", ". 0 1", ". 1 0", "0,1 0 1", "0,1 1 0", ". . ."},
		// What is needed comes against the order of the blocks.
		{"5 . 1 2 3 4", ". 6 . . . .", ". . . . . .", "6 6 6 6 6 6", "6 . 6 6 6 6", ". . . . . ."},
		{"5 . 1 2 3 4", ". 6 . . . .", ". . . 6 . .", ". 6 6 . . .", ". . 6 6 . .", ". . . . . ."},
		// A name that is used nowhere.
		{"1 2,3 1 .", ". 0 1 2", "7 . 7 7", "0,1,2 0,1,2 0,1,2 2", "0,1,2 0,1,2 0,1,2 .", "7 . 7 7"},
		// Blocks that are not reached.
		{". 0", "1 2", ". 1", "1 2", ". 1", ". ."},
		{". 0", "1 .", ". .", "1 1", ". 1", ". ."},
		{". 2 1", ". 4 .", ". . 3", ". 4 4", ". 4 4", ". . 3"},
		{"0 1", ". 4", "4 5", ". 4", ". 4", "4 5"},
		{"1,2 3 3 1,4 . 4", ". . . . 0 1", "0 . . . . 0", ". 0 0 0 0 1", "0 0 0 0 . 0", ". . . . . ."},
	} {
		f := flowOf(one[0], one[1], one[2])
		checkLiveIn(t, f, listsOf(one[3]), true)
		checkLiveOut(t, f, listsOf(one[4]), true)
		checkDead(t, f, listsOf(one[5]), true)
		checkLive(t, f)
	}
}

func TestClashesByHand(t *testing.T) {
	for _, one := range [][4]string{
		// In no list, or alone in each.
		{".", ".", ".", ". . . . . . . ."},
		{".", "0", ".", ". . . . . . . ."},
		{".", ".", eightNames, ". . . . . . . ."},
		{"1 .", ". .", "0,1 2,3", ". . . . . . . ."},
		{"1 .", "0 1", "1 .", ". . . . . . . ."},
		{"1 2 .", "0 1 7", "1 7 .", ". . . . . . . ."},
		// Both in LiveOut of a block, but in no list of LiveIn together.
		{"1,2 . .", ". 0 1", "0,1 . .", ". . . . . . . ."},
		// In one list together.
		{".", "0,1", ".", "1 0 . . . . . ."},
		{".", "6,7", "6,7", ". . . . . . 7 6"},
		{".", "0,1,7", ".", "1,7 0,7 . . . . . 0,1"},
		{"1 .", "0 1", ". .", "1 0 . . . . . ."},
		{"1 2 .", ". 0 1", "0,1 . .", "1 0 . . . . . ."},
		{"1,2 . .", ". 0 1", ". . .", "1 0 . . . . . ."},
		{"1 2,3 1 .", ". 3 . 5", ". . 3 .", ". . . 5 . 3 . ."},
		{".", eightNames, ".", "1,2,3,4,5,6,7 0,2,3,4,5,6,7 0,1,3,4,5,6,7 0,1,2,4,5,6,7 0,1,2,3,5,6,7 0,1,2,3,4,6,7 0,1,2,3,4,5,7 0,1,2,3,4,5,6"},
		// In several lists, each with others.
		{"1 2 .", "0,1 1,2 2,3", "2 3 .", "1 0,2 1,3 2 . . . ."},
		{". . .", "0,7 3,7 5,7", ". . .", "7 . . 7 . 7 . 0,3,5"},
		{". . .", "0,1 0,1 0,1", ". . .", "1 0 . . . . . ."},
		{". . .", "4,5 1,2 1,4", ". . .", ". 2,4 1 . 1,5 4 . ."},
		// In a list of a block that is not reached.
		{". .", "0 1,2", ". .", ". 2 1 . . . . ."},
	} {
		f := flowOf(one[0], one[1], one[2])
		checkClashes(t, f, listsOf(one[3]), true)
		checkLive(t, f)
	}
}

// TestLiveOfLongRows: what the last block of a row uses is needed from behind where it is set, or everywhere, where that block itself sets it; in the order of the blocks and against it.
func TestLiveOfLongRows(t *testing.T) {
	for setter := range impl.MaxBlocks {
		up := impl.Flow{Graph: straight(impl.MaxBlocks), Blocks: make([]impl.Block, impl.MaxBlocks)}
		down := impl.Flow{Graph: nextOf(impl.MaxBlocks, func(b, c int) bool { return c == b-1 }), Blocks: make([]impl.Block, impl.MaxBlocks)}
		up.Blocks[setter].Sets, up.Blocks[impl.MaxBlocks-1].Uses = []int{7}, []int{7}
		down.Blocks[setter].Sets, down.Blocks[0].Uses = []int{7}, []int{7}
		upIn, downIn := make([][]int, impl.MaxBlocks), make([][]int, impl.MaxBlocks)
		for b := range impl.MaxBlocks {
			if b > setter || setter == impl.MaxBlocks-1 {
				upIn[b] = []int{7}
			}
			if b < setter || setter == 0 {
				downIn[b] = []int{7}
			}
		}
		checkLiveIn(t, up, upIn, true)
		checkLiveIn(t, down, downIn, true)
		checkLive(t, up)
		checkLive(t, down)
	}
}

// TestLiveOfFewestAndMost: blocks go on to the next or to all, and use and set nothing or everything.
func TestLiveOfFewestAndMost(t *testing.T) {
	all := numbersTo(impl.MaxNames)
	for blocks := 1; blocks <= impl.MaxBlocks; blocks++ {
		for _, g := range []impl.Graph{straight(blocks), complete(blocks)} {
			for _, block := range []impl.Block{{}, {Uses: all}, {Sets: all}, {Uses: all, Sets: all}} {
				f := impl.Flow{Graph: g}
				for range blocks {
					f.Blocks = append(f.Blocks, block)
				}
				checkLive(t, f)
			}
		}
	}
}
