package tests

import (
	"slices"
	"testing"

	"loop.example/g00339/impl"
)

func TestLiveConstant(t *testing.T) {
	if impl.MaxNames != 8 {
		t.Errorf("MaxNames: %d", impl.MaxNames)
	}
}

func TestGoodFlow(t *testing.T) {
	for _, one := range [][3]string{
		{".", ".", "."}, {"0", "0", "0"}, {"0", "0,7", "0,7"}, {".", "0,1,2,3,4,5,6,7", "0,1,2,3,4,5,6,7"}, {".", "7", "."}, {".", ".", "7"},
		{"1 .", ". .", ". ."}, {"1 0", "0 1", "1 0"}, {". .", "3,4,5 0", "1 0,6,7"}, {"1,2 3 3 1,4 . 4", ". 1 2 3 . 0", "0,1,2,3 . . . . 7"},
		{". . . . . . . . . . . .", ". . . . . . . . . . . 7", "0 . . . . . . . . . . ."},
	} {
		if f := flowOf(one[0], one[1], one[2]); !impl.GoodFlow(f) {
			t.Errorf("told not good: %v", one)
		}
	}
	for _, f := range []impl.Flow{
		{Graph: impl.Graph{Next: [][]int{nil}}, Blocks: []impl.Block{{}}},
		{Graph: impl.Graph{Next: [][]int{{}}}, Blocks: []impl.Block{{Uses: []int{}}}},
		{Graph: impl.Graph{Next: [][]int{{1}, nil}}, Blocks: []impl.Block{{Uses: nil, Sets: []int{}}, {Uses: []int{}, Sets: nil}}},
		{Graph: straight(12), Blocks: make([]impl.Block, 12)}, {Graph: complete(12), Blocks: make([]impl.Block, 12)},
	} {
		if !impl.GoodFlow(f) {
			t.Errorf("told not good: %v", f)
		}
	}
}

// badFlows tells flows of each kind that is not good.
func badFlows() []impl.Flow {
	var out []impl.Flow
	for _, g := range wrongGraphs() {
		out = append(out, impl.Flow{Graph: g, Blocks: make([]impl.Block, len(g.Next))}, impl.Flow{Graph: g, Blocks: make([]impl.Block, 1)}, impl.Flow{Graph: g})
	}
	for _, l := range badNames() {
		for _, blocks := range [][]impl.Block{{{Uses: l}}, {{Sets: l}}, {{Uses: l, Sets: l}}} {
			out = append(out, impl.Flow{Graph: graphOf("0"), Blocks: blocks})
		}
		for b := range 3 {
			uses, sets := flowOf("1 2 0", "0 1 2", "1 2 0"), flowOf("1 2 0", "0 1 2", "1 2 0")
			uses.Blocks[b].Uses, sets.Blocks[b].Sets = l, l
			out = append(out, uses, sets)
		}
	}
	return append(out,
		flowOf(".", "", ""), flowOf(".", ". .", ". ."), flowOf("1 .", ".", "."), flowOf("1 .", ". . .", ". . ."), flowOf("1 2 .", "0 1", "0 1"), flowOf("1 2 .", "0 1 2 3", "0 1 2 3"),
		impl.Flow{}, impl.Flow{Blocks: make([]impl.Block, 1)}, impl.Flow{Graph: straight(12)}, impl.Flow{Graph: straight(12), Blocks: make([]impl.Block, 11)},
		impl.Flow{Graph: straight(12), Blocks: make([]impl.Block, 13)}, impl.Flow{Graph: straight(1), Blocks: make([]impl.Block, 100000)},
	)
}

// badNames tells lists that do not rise, that name one twice, that name what is no name.
func badNames() [][]int {
	const most, least = 1<<63 - 1, -1 << 63
	return [][]int{
		{1, 0}, {0, 2, 1}, {7, 6, 5}, {0, 7, 6}, {0, 0}, {7, 7}, {0, 1, 1}, {0, 0, 1}, {0, 1, 0}, make([]int, 8), make([]int, 100000),
		{-1}, {8}, {-1, 0}, {0, 8}, {7, 8}, {-1, 8}, {0, -1}, {8, 0}, {12}, {11}, {-8}, {0, 1, 2, 3, 4, 5, 6, 7, 8}, {-1, 0, 1, 2, 3, 4, 5, 6, 7},
		{most}, {least}, {0, most}, {least, 0}, {least, 0, most}, {256}, {1 << 32}, numbersTo(100000),
	}
}

func TestFlowsThatAreNotGood(t *testing.T) {
	for _, f := range badFlows() {
		checkAllRefused(t, f)
	}
}

func TestGoodFlowCounts(t *testing.T) {
	for blocks := range 15 {
		for count := range 15 {
			for _, g := range []impl.Graph{straight(blocks), complete(blocks)} {
				want := blocks >= 1 && blocks <= 12 && count == blocks
				if got := impl.GoodFlow(impl.Flow{Graph: g, Blocks: make([]impl.Block, count)}); got != want {
					t.Errorf("%d blocks of a graph of %d: %v", count, blocks, got)
				}
			}
		}
	}
}

// TestGoodFlowOfAllShortLists puts each short list of numbers in and out of bounds at each place.
func TestGoodFlowOfAllShortLists(t *testing.T) {
	lists := [][]int{nil}
	for range 4 {
		var longer [][]int
		for _, l := range lists {
			for b := range 2 {
				uses, sets := flowOf("1 0", "0 7", "7 0"), flowOf("1 0", "0 7", "7 0")
				uses.Blocks[b].Uses, sets.Blocks[b].Sets = l, l
				if want := plainRising(l, 8); impl.GoodFlow(uses) != want || impl.GoodFlow(sets) != want {
					t.Fatalf("the list %v at block %d: want %v", l, b, want)
				}
			}
			for n := -1; n <= 8; n++ {
				longer = append(longer, append(slices.Clone(l), n))
			}
		}
		lists = longer
	}
}
