package tests

import (
	"slices"
	"testing"

	"loop.example/g00339/impl"
)

func TestFlowConstant(t *testing.T) {
	if impl.MaxBlocks != 12 {
		t.Errorf("MaxBlocks: %d", impl.MaxBlocks)
	}
}

func TestGoodGraph(t *testing.T) {
	for _, text := range []string{
		".", "0", ". .", "1 .", "1 0", "0,1 0,1", ". 0", "0 1", "1,2 3 3 1,4 . 4", ". . . . . . . . . . . .", "11 . . . . . . . . . . 0",
		"0,1,2,3,4,5,6,7,8,9,10,11 . . . . . . . . . . 0,11",
	} {
		if g := graphOf(text); !impl.GoodGraph(g) {
			t.Errorf("told not good: %s", text)
		}
	}
	for _, text := range []string{
		"", "1", "-1", "0,1", "0,0", "-1,0", "2 .", ". 2", ". -1", "1,0 .", "1,1 .", ". 0,0", "0,1,1 .", "0,1,0 .", "0,1,2 .", "-1,0,1 .",
		"1,2 3 3 4,1 . 4", "1,2 3 3 1,4 . 6", "1,2 3 3 1,4 . -1", "2,1 . .", "0,2,1 . .", "0,1,2,2 . .", "0,0,1,2 . .",
		". . . . . . . . . . . . .", ". . . . . . . . . . . 12", "1 2 3 4 5 6 7 8 9 10 11 12 .",
	} {
		if g := graphOf(text); impl.GoodGraph(g) {
			t.Errorf("told good: %s", text)
		}
	}
}

func TestGoodGraphCounts(t *testing.T) {
	for blocks := range 30 {
		want := blocks >= 1 && blocks <= 12
		for _, g := range []impl.Graph{straight(blocks), complete(blocks), {Next: make([][]int, blocks)}, {Next: slices.Repeat([][]int{{}}, blocks)}} {
			if got := impl.GoodGraph(g); got != want {
				t.Errorf("%d blocks: %v", blocks, got)
			}
		}
	}
	for _, g := range []impl.Graph{{}, {Next: nil}, {Next: [][]int{}}, {Next: make([][]int, 1<<20)}} {
		if impl.GoodGraph(g) {
			t.Errorf("told good: a graph of %d blocks", len(g.Next))
		}
	}
}

// TestGoodGraphNumbers puts each number at each place where a block goes on to a single one.
func TestGoodGraphNumbers(t *testing.T) {
	for blocks := 1; blocks <= impl.MaxBlocks; blocks++ {
		for b := range blocks {
			for _, n := range []int{-1 << 63, -blocks, -1, 0, 1, b, blocks - 1, blocks, blocks + 1, 11, 12, 13, 256, 1 << 32, 1<<63 - 1} {
				g := straight(blocks)
				g.Next[b] = []int{n}
				if got := impl.GoodGraph(g); got != (n >= 0 && n < blocks) {
					t.Errorf("GoodGraph(%v): %v", g.Next, got)
				}
			}
		}
	}
}

// plainRising holds each two numbers of a list against each other.
func plainRising(l []int, blocks int) bool {
	for i := range l {
		for j := range i {
			if l[j] >= l[i] {
				return false
			}
		}
		if l[i] < 0 || l[i] >= blocks {
			return false
		}
	}
	return true
}

func TestGoodGraphOfAllShortLists(t *testing.T) {
	lists := [][]int{nil}
	for range 5 {
		var longer [][]int
		for _, l := range lists {
			for b := range 3 {
				g := graphOf("1 2 0")
				g.Next[b] = l
				if got := impl.GoodGraph(g); got != plainRising(l, 3) {
					t.Fatalf("GoodGraph(%v): %v", g.Next, got)
				}
			}
			for n := -1; n <= 3; n++ {
				longer = append(longer, append(slices.Clone(l), n))
			}
		}
		lists = longer
	}
}
