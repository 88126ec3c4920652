package tests

import (
	"slices"
	"testing"

	"loop.example/g00339/impl"
)

// TestLiveOfEmptyAndNil: the empty list and the nil list are the same.
func TestLiveOfEmptyAndNil(t *testing.T) {
	nothing := []impl.Block{{}, {Uses: []int{}}, {Sets: []int{}}, {Uses: []int{}, Sets: []int{}}}
	for _, g := range []impl.Graph{{Next: [][]int{nil, {}}}, {Next: [][]int{{1}, nil}}, {Next: [][]int{{1}, {}}}, {Next: [][]int{{}, {0, 1}}}} {
		for _, a := range nothing {
			for _, b := range nothing {
				f := impl.Flow{Graph: g, Blocks: []impl.Block{a, b}}
				checkLive(t, f)
				checkLiveIn(t, f, make([][]int, 2), true)
				checkLiveOut(t, f, make([][]int, 2), true)
				checkDead(t, f, make([][]int, 2), true)
				checkClashes(t, f, make([][]int, 8), true)
				for _, in := range [][][]int{{nil, nil}, {{}, nil}, {nil, {}}, {{}, {}}} {
					checkFixed(t, f, in, true, true)
				}
				for _, none := range [][]int{nil, {}} {
					checkNeeded(t, f, none, 0, false, false)
				}
				checkFixed(t, f, nil, false, false)
				checkFixed(t, f, [][]int{}, false, false)
			}
		}
	}
}

// longFlow tells the same flow, with more behind each of its lists.
func longFlow(f impl.Flow, junk []int) impl.Flow {
	long := impl.Flow{Graph: impl.Graph{Next: withMore(f.Graph.Next, junk, nil)}, Blocks: withMore(f.Blocks, impl.Block{Uses: junk}, impl.Block{Sets: junk})}
	for b := range long.Blocks {
		long.Graph.Next[b] = withMore(long.Graph.Next[b], junk...)
		long.Blocks[b].Uses = withMore(long.Blocks[b].Uses, junk...)
		long.Blocks[b].Sets = withMore(long.Blocks[b].Sets, junk...)
	}
	return long
}

// TestLiveBehindTheLength: what lies behind a list's length is neither read, nor written, nor handed out.
func TestLiveBehindTheLength(t *testing.T) {
	r := draw(1209)
	for range 300 {
		f := drawBlocks(&r, drawGraph(&r, impl.MaxBlocks))
		junk := []int{7, -9, 0}
		long := longFlow(f, junk)
		in := plainLiveIn(f)
		longIn := withMore(in, junk, nil)
		for b := range in {
			longIn[b] = withMore(in[b], junk...)
		}
		way := withMore([]int{r.below(len(f.Blocks))}, junk...)
		checkLive(t, long)
		checkFixed(t, long, longIn, true, true)
		for name := range impl.MaxNames {
			checkNeeded(t, long, way, name, plainNeeded(f, way, name), true)
		}
		lists := [][]int{way}
		for b := range long.Blocks {
			lists = append(lists, long.Graph.Next[b], long.Blocks[b].Uses, long.Blocks[b].Sets, longIn[b])
		}
		for _, l := range lists {
			if !slices.Equal(behind(l, 3), junk) {
				t.Fatal("written behind a list's length")
			}
		}
		graph, blocks, told := behind(long.Graph.Next, 2), behind(long.Blocks, 2), behind(longIn, 2)
		want := []int{7, -9, 0}
		if !slices.Equal(graph[0], want) || graph[1] != nil || !slices.Equal(told[0], want) || told[1] != nil {
			t.Fatal("written behind the length of a graph or of lists")
		}
		if !slices.Equal(blocks[0].Uses, want) || blocks[0].Sets != nil || blocks[1].Uses != nil || !slices.Equal(blocks[1].Sets, want) {
			t.Fatal("written behind the length of the blocks")
		}
	}
}

// TestLiveCutOff: what would be good with what lies behind it, is not; what would not, is.
func TestLiveCutOff(t *testing.T) {
	f := flowOf("1 .", "0 1", "1 0")
	checkAllRefused(t, impl.Flow{Graph: f.Graph, Blocks: f.Blocks[:1]})
	checkAllRefused(t, impl.Flow{Graph: impl.Graph{Next: f.Graph.Next[:1]}, Blocks: f.Blocks})
	cut := impl.Flow{Graph: impl.Graph{Next: [][]int{[]int{0, 1}[:1], nil}[:1]}, Blocks: []impl.Block{{Uses: []int{3, 3}[:1], Sets: []int{8}[:0]}, {Uses: []int{-1}}}[:1]}
	checkLive(t, cut)
	checkLiveIn(t, cut, [][]int{{3}}, true)
	checkFixed(t, cut, [][]int{[]int{3, 2}[:1], nil}[:1], true, true)
	checkFixed(t, cut, [][]int{{3}, nil}[:0], false, false)
	checkNeeded(t, cut, []int{0, 1}[:1], 3, true, true)
	checkNeeded(t, cut, []int{0}[:0], 3, false, false)
	checkNeeded(t, cut, make([]int, 31)[:30], 3, true, true)
}

// TestLiveOfSharedLists: lists of one flow, and those beside it, may share memory.
func TestLiveOfSharedLists(t *testing.T) {
	all := numbersTo(impl.MaxNames)
	f := impl.Flow{Graph: impl.Graph{Next: slices.Repeat([][]int{all[:7]}, 7)}}
	for b := range 7 {
		f.Blocks = append(f.Blocks, impl.Block{Uses: all[b/2 : b/2+2], Sets: all[b/3 : b/3+4]})
	}
	checkLive(t, f)
	checkFixed(t, f, slices.Repeat([][]int{all}, 7), false, true)
	checkFixed(t, f, f.Graph.Next, plainFixed(f, f.Graph.Next), true)
	for _, name := range all {
		checkNeeded(t, f, all[:7], name, plainNeeded(f, all[:7], name), true)
		checkNeeded(t, f, f.Graph.Next[0][2:5], name, plainNeeded(f, []int{2, 3, 4}, name), true)
	}
	whole := impl.Flow{Graph: impl.Graph{Next: slices.Repeat([][]int{all}, 8)}, Blocks: slices.Repeat([]impl.Block{{Uses: all, Sets: all}}, 8)}
	checkLive(t, whole)
	checkFixed(t, whole, whole.Graph.Next, true, true)
	if !slices.Equal(all, numbersTo(impl.MaxNames)) {
		t.Errorf("written: %v", all)
	}
}

// TestLiveAnswersOfTheirOwn writes into each list of an answer: no argument may change, no other list, and what was told is told again.
func TestLiveAnswersOfTheirOwn(t *testing.T) {
	r := draw(1210)
	for range 300 {
		f := drawBlocks(&r, drawGraph(&r, impl.MaxBlocks))
		kept := cloneFlow(f)
		for range 2 {
			checkLive(t, f)
			for _, call := range []func(impl.Flow) ([][]int, bool){impl.LiveIn, impl.LiveOut, impl.DeadSets, impl.ClashesOf} {
				lists, ok := call(f)
				if !ok {
					t.Fatalf("refused: %v", f)
				}
				scribbleLists(t, lists)
			}
			checkFlowKept(t, f, kept)
		}
		if t.Failed() {
			t.FailNow()
		}
	}
}
