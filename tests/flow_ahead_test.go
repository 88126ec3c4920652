package tests

import (
	"slices"
	"testing"

	"loop.example/g00339/impl"
)

func TestDominatorsByHand(t *testing.T) {
	for _, one := range [][3]string{
		{".", "0", "-1"},
		{"0", "0", "-1"},
		{". .", "0 .", "-1,-1"},
		{". 0", "0 .", "-1,-1"},
		{"1 0", "0 0,1", "-1,0"},
		// Straight ways, also ones that go to lesser numbers.
		{"1 2 3 .", "0 0,1 0,1,2 0,1,2,3", "-1,0,1,2"},
		{"3 . 1 2", "0 0,1,2,3 0,2,3 0,3", "-1,2,3,0"},
		{"2 3 1 .", "0 0,1,2 0,2 0,1,2,3", "-1,2,0,1"},
		// Ways that part and join; within one another; that leap over.
		{"1,2 3 3 .", "0 0,1 0,2 0,3", "-1,0,0,0"},
		{"1,2 3 3 4 .", "0 0,1 0,2 0,3 0,3,4", "-1,0,0,0,3"},
		{"1 2,3 4 4 5 .", "0 0,1 0,1,2 0,1,3 0,1,4 0,1,4,5", "-1,0,1,1,1,4"},
		{"1,5 2,3 4 4 5 .", "0 0,1 0,1,2 0,1,3 0,1,4 0,5", "-1,0,1,1,1,0"},
		{"1,2 2 .", "0 0,1 0,2", "-1,0,0"},
		{"1 2,3 3 .", "0 0,1 0,1,2 0,1,3", "-1,0,1,1"},
		// Loops.
		{"1 2,3 1 .", "0 0,1 0,1,2 0,1,3", "-1,0,1,1"},
		{"1 2 3 1,4 0", "0 0,1 0,1,2 0,1,2,3 0,1,2,3,4", "-1,0,1,2,3"},
		{"1 2 2,3 1,4 .", "0 0,1 0,1,2 0,1,2,3 0,1,2,3,4", "-1,0,1,2,3"},
		{"1 1,2 .", "0 0,1 0,1,2", "-1,0,1"},
		// Loops with two entries.
		{"1,2 2 1", "0 0,1 0,2", "-1,0,0"},
		{"1,2 2,3 1 .", "0 0,1 0,2 0,1,3", "-1,0,0,1"},
		{"1 2,3 3 2,4 .", "0 0,1 0,1,2 0,1,3 0,1,3,4", "-1,0,1,1,3"},
		{"1,2 3 3 1,4 . 4", "0 0,1 0,2 0,3 0,3,4 .", "-1,0,0,0,3,-1"},
		// What is not reached, and goes on to what is.
		{"2 2 .", "0 . 0,2", "-1,-1,0"},
		{"1 2 . 0,1,2,3", "0 0,1 0,1,2 .", "-1,0,1,-1"},
		{"1 3 4 . 2,3", "0 0,1 . 0,1,3 .", "-1,0,-1,1,-1"},
		{". 2 1", "0 . .", "-1,-1,-1"},
	} {
		g := graphOf(one[0])
		checkDominators(t, g, listsOf(one[1]), true)
		checkNearest(t, g, numbersOf(one[2]), true)
	}
}

func TestDominatorsOfMany(t *testing.T) {
	for blocks := 1; blocks <= impl.MaxBlocks; blocks++ {
		ahead, apart, none := make([][]int, blocks), make([][]int, blocks), make([][]int, blocks)
		before, first, never := make([]int, blocks), make([]int, blocks), slices.Repeat([]int{-1}, blocks)
		for b := range blocks {
			ahead[b], before[b] = numbersTo(b+1), b-1
			apart[b], first[b] = []int{0, b}, 0
		}
		apart[0], none[0], first[0] = []int{0}, []int{0}, -1
		checkDominators(t, straight(blocks), ahead, true)
		checkNearest(t, straight(blocks), before, true)
		checkDominators(t, complete(blocks), apart, true)
		checkNearest(t, complete(blocks), first, true)
		checkDominators(t, impl.Graph{Next: make([][]int, blocks)}, none, true)
		checkNearest(t, impl.Graph{Next: make([][]int, blocks)}, never, true)
	}
}

// TestDominatorsSettleLate: edges whose order is against that of the blocks, so that what is found must be gone through again and again.
func TestDominatorsSettleLate(t *testing.T) {
	for _, text := range []string{
		"11 . 1 2 3 4 5 6 7 8 9 10",
		"2,11 . 1 2 3 4 5 6 7 8 9 10",
		"6,11 . 1 2 3 4 5 6 7 8 9 1,10",
		"11 11 1 2 3 4 5 6 7 8 9 1,10",
		"1,11 2 3 4 5 6 7 8 9 10 11 1",
		"1,11 2 1,3 2,4 3,5 4,6 5,7 6,8 7,9 8,10 9,11 10",
		"11 3 1 2,5 3 4,7 5 6,9 7 8,11 9 1,10",
	} {
		checkFlow(t, graphOf(text))
	}
}

// checkPromise10 holds who dominates against who gets there without; tells how many dominate another one, with 0 apart.
func checkPromise10(t *testing.T, g impl.Graph) int {
	t.Helper()
	reached, ok := impl.ReachedOf(g)
	dominators, too := impl.DominatorsOf(g)
	if !ok || !too || len(dominators) != len(g.Next) {
		t.Fatalf("%v: %v %v", g.Next, reached, dominators)
	}
	count := 0
	for k := range g.Next {
		left, ok := impl.Without(g, k)
		if !ok || slices.Contains(left, k) {
			t.Fatalf("Without(%v, %d): %v %v", g.Next, k, left, ok)
		}
		for b := range g.Next {
			is := slices.Contains(dominators[b], k)
			want := slices.Contains(reached, b) && slices.Contains(reached, k) && (b == k || !slices.Contains(left, b))
			if is != want {
				t.Fatalf("%v: %d among the dominators %v of %d, without it %v", g.Next, k, dominators[b], b, left)
			}
			if is && k != b && k != 0 {
				count++
			}
		}
	}
	for b := range g.Next {
		checkInARow(t, g, dominators, b)
	}
	return count
}

// checkInARow: of two dominators one dominates the other, and theirs are among them.
func checkInARow(t *testing.T, g impl.Graph, dominators [][]int, b int) {
	t.Helper()
	if !slices.IsSorted(dominators[b]) {
		t.Fatalf("%v: the dominators %v of %d do not rise", g.Next, dominators[b], b)
	}
	for _, k := range dominators[b] {
		for _, other := range dominators[b] {
			if !slices.Contains(dominators[k], other) && !slices.Contains(dominators[other], k) {
				t.Fatalf("%v: of %d and %d, dominators of %d, none dominates the other", g.Next, k, other, b)
			}
		}
		for _, above := range dominators[k] {
			if !slices.Contains(dominators[b], above) {
				t.Fatalf("%v: %d dominates %d, which dominates %d, and does not itself", g.Next, above, k, b)
			}
		}
	}
}

func TestPromise10OfAll(t *testing.T) {
	for blocks := 1; blocks <= 4; blocks++ {
		allGraphs(blocks, func(g impl.Graph) {
			checkPromise10(t, g)
			checkFlow(t, g)
			checkDominators(t, g, dominatorsByWays(g), true)
			if t.Failed() {
				t.FailNow()
			}
		})
	}
}

func TestPromise10Drawn(t *testing.T) {
	r := draw(1001)
	some, many := 0, 0
	for range 6000 {
		g := drawGraph(&r, impl.MaxBlocks)
		count := checkPromise10(t, g)
		if count > 0 {
			some++
		}
		if count >= 10 {
			many++
		}
		checkFlow(t, g)
		if t.Failed() {
			t.FailNow()
		}
	}
	if some < 1500 || many < 300 {
		t.Errorf("too few graphs in which blocks other than 0 dominate others: %d, many: %d", some, many)
	}
}

// TestDominatorsByWays goes all ways one by one.
func TestDominatorsByWays(t *testing.T) {
	r := draw(1002)
	for range 3000 {
		g := drawThin(&r, impl.MaxBlocks)
		checkDominators(t, g, dominatorsByWays(g), true)
		checkPromise10(t, g)
	}
	for range 3000 {
		g := drawGraph(&r, 6)
		checkDominators(t, g, dominatorsByWays(g), true)
		checkPromise10(t, g)
	}
}
