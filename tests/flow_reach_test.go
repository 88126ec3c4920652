package tests

import (
	"testing"

	"loop.example/g00339/impl"
)

func TestReachedByHand(t *testing.T) {
	for _, one := range [][2]string{
		{".", "0"},
		{"0", "0"},
		{". .", "0"},
		{". 0", "0"},
		{"0 0,1", "0"},
		{"1 .", "0,1"},
		{"1 0", "0,1"},
		{"2 . 1", "0,1,2"},
		{"2 . .", "0,2"},
		{"2 2 .", "0,2"},
		{"3 0 1 2", "0,1,2,3"},
		{"3 0 . 1", "0,1,3"},
		{". 2 3 1", "0"},
		{"4 2 1 1,2,4 .", "0,4"},
		{"1,2 3 3 1,4 . 4", "0,1,2,3,4"},
		{"11 . . . . . . . . . . 5", "0,5,11"},
		{"11 0 1 2 3 4 5 6 7 8 9 10", "0,1,2,3,4,5,6,7,8,9,10,11"},
		{"0 0,1,2,3,4,5,6,7,8,9,10,11 . . . . . . . . . 1", "0"},
	} {
		checkReached(t, graphOf(one[0]), numbersOf(one[1]), true)
	}
	for blocks := 1; blocks <= impl.MaxBlocks; blocks++ {
		all := numbersTo(blocks)
		checkReached(t, straight(blocks), all, true)
		checkReached(t, complete(blocks), all, true)
		checkReached(t, impl.Graph{Next: make([][]int, blocks)}, all[:1], true)
	}
}

// numbersTo tells the numbers below n.
func numbersTo(n int) []int {
	out := make([]int, n)
	for k := range out {
		out[k] = k
	}
	return out
}

func TestWithoutByHand(t *testing.T) {
	for _, one := range []struct {
		graph string
		k     int
		want  string
	}{
		{".", 0, ""},
		{"0", 0, ""},
		{"1 0", 0, ""},
		{"1 0", 1, "0"},
		{"0,1,2 0,1,2 0,1,2", 0, ""},
		{"0,1,2 0,1,2 0,1,2", 1, "0,2"},
		{"0,1,2 0,1,2 0,1,2", 2, "0,1"},
		// One that parts the graph, and others that do not.
		{"1 2 3 .", 1, "0"},
		{"1 2 3 .", 2, "0,1"},
		{"1 2 3 .", 3, "0,1,2"},
		{"1,2 3 3 .", 1, "0,2,3"},
		{"1,2 3 3 .", 2, "0,1,3"},
		{"1,2 3 3 1,4 . 4", 0, ""},
		{"1,2 3 3 1,4 . 4", 1, "0,2,3,4"},
		{"1,2 3 3 1,4 . 4", 2, "0,1,3,4"},
		{"1,2 3 3 1,4 . 4", 3, "0,1,2"},
		{"1,2 3 3 1,4 . 4", 4, "0,1,2,3"},
		// One that is not reached takes nothing away.
		{"1,2 3 3 1,4 . 4", 5, "0,1,2,3,4"},
		{". 0", 1, "0"},
		{"2 2 .", 1, "0,2"},
		// Ways around, the last of them a long one.
		{"1,3 2 . 4 5 2", 1, "0,2,3,4,5"},
		{"1,3 2 . 4 5 2", 4, "0,1,2,3"},
		{"5 . 1 2 3 4", 3, "0,4,5"},
		{"1,2,3,4,5,6,7,8,9,10,11 . . . . . . . . . . .", 11, "0,1,2,3,4,5,6,7,8,9,10"},
		{"11 0 1 2 3 4 5 6 7 8 9 10", 11, "0"},
		{"11 0 1 2 3 4 5 6 7 8 9 10", 1, "0,2,3,4,5,6,7,8,9,10,11"},
	} {
		checkWithout(t, graphOf(one.graph), one.k, numbersOf(one.want), true)
	}
	for blocks := 1; blocks <= impl.MaxBlocks; blocks++ {
		for k := range blocks {
			checkWithout(t, straight(blocks), k, numbersTo(k), true)
		}
		for _, g := range []impl.Graph{straight(blocks), complete(blocks), {Next: make([][]int, blocks)}} {
			for _, k := range []int{-1 << 63, -blocks, -2, -1, blocks, blocks + 1, 12, 13, 1 << 32, 1<<63 - 1} {
				checkWithout(t, g, k, nil, false)
			}
		}
	}
}
