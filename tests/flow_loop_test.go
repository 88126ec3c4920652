package tests

import (
	"slices"
	"testing"

	"loop.example/g00339/impl"
)

func TestBackEdgesByHand(t *testing.T) {
	for _, one := range [][2]string{
		{".", ""},
		{"0", "0,0"},
		{". 1", ""},
		{". 0", ""},
		{"1 0", "1,0"},
		{"0,1 0,1", "0,0 1,0 1,1"},
		{"1 1,2 .", "1,1"},
		{"1 2,3 1 .", "2,1"},
		// By from, then by to.
		{"1 2 3 0,1,2,3", "3,0 3,1 3,2 3,3"},
		{"1 0,2 0,1,3 0,1,2,3", "1,0 2,0 2,1 3,0 3,1 3,2 3,3"},
		{"3 0,1,2,3 0,1,2,3 0,2", "1,0 1,1 1,2 1,3 2,0 2,2 2,3 3,0"},
		{"2 0 1,2", "1,0 2,2"},
		// Loops with two entries have none of their own.
		{"1,2 2 1", ""},
		{"1,2 2,3 1 .", ""},
		{"1,2 3 3 1,4 . 4", ""},
		{"1,2 2 0,1,2", "2,0 2,2"},
		{"1 2,3 3 1,2", "3,1"},
		// Of what is not reached none, wherever it goes on to.
		{"1 . 1,2 2", ""},
		{"1 0 0,1,2", "1,0"},
		{". 2 1", ""},
		{"11 . . . . . . . . . . 0,11", "11,0 11,11"},
	} {
		checkBackEdges(t, graphOf(one[0]), listsOf(one[1]), true)
	}
	for blocks := 1; blocks <= impl.MaxBlocks; blocks++ {
		checkBackEdges(t, straight(blocks), nil, true)
		var each, all [][]int
		for b := range blocks {
			all = append(all, []int{b, 0})
			if b > 0 {
				all = append(all, []int{b, b})
			}
			for to := range b + 1 {
				each = append(each, []int{b, to})
			}
		}
		checkBackEdges(t, complete(blocks), all, true)
		checkBackEdges(t, nextOf(blocks, func(b, c int) bool { return c <= b+1 }), each, true)
	}
}

func TestLoopByHand(t *testing.T) {
	for _, one := range []struct {
		graph    string
		from, to int
		want     string
	}{
		{"0", 0, 0, "0"},
		{"1 0", 1, 0, "0,1"},
		{"1 2,3 1 .", 2, 1, "1,2"},
		// A block that goes on to itself, alone whatever else leads to it.
		{"1 1,2 .", 1, 1, "1"},
		{"0,1 0,1", 0, 0, "0"},
		{"0,1 0,1", 1, 1, "1"},
		{"0,1 0,1", 1, 0, "0,1"},
		{"1 2 1,2 2", 2, 2, "2"},
		// Loops within loops, and two with one beginning.
		{"1 2 2,3 1,4 0", 2, 2, "2"},
		{"1 2 2,3 1,4 0", 3, 1, "1,2,3"},
		{"1 2 2,3 1,4 0", 4, 0, "0,1,2,3,4"},
		{"1 2 3 2,4 1,5 .", 3, 2, "2,3"},
		{"1 2 3 2,4 1,5 .", 4, 1, "1,2,3,4"},
		{"1 2,3 1 1", 2, 1, "1,2"},
		{"1 2,3 1 1", 3, 1, "1,3"},
		{"1 2,3 4 4 1,5 .", 4, 1, "1,2,3,4"},
		{"1 2,3 4 5 1 .", 4, 1, "1,2,4"},
		// A loop with two entries within one that has one.
		{"1 2,3 3 1,2", 3, 1, "1,2,3"},
		// Blocks that are not reached, but from which the loop is.
		{"1 2,3 1 . 2", 2, 1, "1,2,4"},
		{"1 2,3 1 . 2 4 5", 2, 1, "1,2,4,5,6"},
		{"1 2,3 1 . 1", 2, 1, "1,2"},
		{"1 2,3 1 . 3", 2, 1, "1,2"},
		{"1 2,3 1 . 1,2", 2, 1, "1,2,4"},
		{"1 1 1 2", 1, 1, "1"},
		{"0 0 1", 0, 0, "0"},
		{"1 0 1", 1, 0, "0,1,2"},
		{"1 0 3 2", 1, 0, "0,1"},
		{"11 . . . . . . . . . . 0,11", 11, 0, "0,11"},
		{"11 0 1 2 3 4 5 6 7 8 9 10", 1, 0, "0,1,2,3,4,5,6,7,8,9,10,11"},
	} {
		checkLoop(t, graphOf(one.graph), one.from, one.to, numbersOf(one.want), true)
	}
}

func TestLoopOfOtherEdges(t *testing.T) {
	for _, one := range []struct {
		graph    string
		from, to int
	}{
		// Edges that are no back edges: ahead, across, into a loop with two entries.
		{"1 2,3 1 .", 0, 1},
		{"1 2,3 1 .", 1, 2},
		{"1 2,3 1 .", 1, 3},
		{"1,2 2 1", 1, 2},
		{"1,2 2 1", 2, 1},
		{"1,2 3 3 1,4 . 4", 3, 1},
		{"1,2 3 3 1,4 . 4", 1, 3},
		{"2 . 1", 2, 1},
		// No edges, also where the one dominates the other.
		{".", 0, 0},
		{"1 2 .", 2, 1},
		{"1 2 .", 2, 0},
		{"1 2 .", 1, 1},
		{"1 2,3 1 .", 3, 1},
		{"1 2,3 1 .", 1, 1},
		{"1 2,3 1 .", 1, 0},
		// Edges of what is not reached.
		{". 1", 1, 1},
		{". 0", 1, 0},
		{". 2 1", 2, 1},
		{"1 1 1,2", 2, 1},
		{"1 1 1,2", 2, 2},
		{"1,2 3 3 1,4 . 4", 5, 4},
	} {
		checkLoop(t, graphOf(one.graph), one.from, one.to, nil, false)
	}
	far := []int{-1 << 63, -12, -1, 12, 13, 1 << 32, 1<<63 - 1}
	for blocks := 1; blocks <= impl.MaxBlocks; blocks++ {
		g := complete(blocks)
		for _, n := range append(far, blocks, -blocks) {
			for _, near := range []int{0, blocks - 1, n} {
				checkLoop(t, g, n, near, nil, false)
				checkLoop(t, g, near, n, nil, false)
			}
		}
	}
}

// TestLoopsHang: what each loop is of, by other words than it is made by.
func TestLoopsHang(t *testing.T) {
	r := draw(1003)
	loops, apart := 0, 0
	for range 4000 {
		g := drawThin(&r, impl.MaxBlocks)
		reached, _ := impl.ReachedOf(g)
		dominators, _ := impl.DominatorsOf(g)
		back, _ := impl.BackEdges(g)
		for _, edge := range back {
			from, to := edge[0], edge[1]
			loop, ok := impl.LoopOf(g, from, to)
			if !ok || !slices.Contains(loop, from) || !slices.Contains(loop, to) || !slices.IsSorted(loop) {
				t.Fatalf("LoopOf(%v, %d, %d): %v %v", g.Next, from, to, loop, ok)
			}
			for _, b := range loop {
				if !slices.Contains(reached, b) {
					apart++
				} else if !slices.Contains(dominators[b], to) {
					t.Fatalf("%v: %d, in the loop %v, is not dominated by %d", g.Next, b, loop, to)
				}
			}
			checkLoop(t, g, from, to, loopByWays(g, from, to), true)
			if from != to {
				loops++
			}
		}
	}
	if loops < 1000 || apart < 100 {
		t.Errorf("too few loops: %d, or blocks in them that are not reached: %d", loops, apart)
	}
}

// loopByWays goes all ways to find those that end at from and do not touch to.
func loopByWays(g impl.Graph, from, to int) []int {
	return plainList(g, func(b int) bool {
		found := b == to
		waysOn(g, []int{b}, func(way []int) {
			found = found || way[len(way)-1] == from && !slices.Contains(way, to)
		})
		return found
	})
}
