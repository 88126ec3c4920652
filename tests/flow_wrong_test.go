package tests

import (
	"slices"
	"testing"

	"loop.example/g00339/impl"
)

func wrongGraphs() []impl.Graph {
	const most, least = 1<<63 - 1, -1 << 63
	out := []impl.Graph{
		{}, {Next: [][]int{}}, {Next: make([][]int, 13)}, {Next: make([][]int, 100000)}, straight(13), complete(13), complete(40),
		{Next: [][]int{make([]int, 2)}}, {Next: [][]int{make([]int, 100000)}}, {Next: [][]int{numbersTo(100000)}}, {Next: [][]int{{0}, make([]int, 100000)}},
		{Next: [][]int{{most}}}, {Next: [][]int{{least}}}, {Next: [][]int{{0, most}}}, {Next: [][]int{{least, 0}}}, {Next: [][]int{nil, {most}}}, {Next: [][]int{{1}, {least, 0, 1}}},
	}
	for _, text := range []string{"1", "-1", "0,1", "0,0", "2 .", ". 2", ". -1", "1,0 .", "1,1 .", ". 1,0", "1 0,0", "1,2 3 3 4,1 . 4", "1,2 3 3 1,4 . 6", ". . . . . . . . . . . 12"} {
		out = append(out, graphOf(text))
	}
	return out
}

func TestWrongGraphs(t *testing.T) {
	numbers := []int{-1 << 63, -13, -1, 0, 1, 2, 11, 12, 13, 1 << 32, 1<<63 - 1}
	for _, g := range wrongGraphs() {
		kept := cloneGraph(g)
		if impl.GoodGraph(g) {
			t.Errorf("told good: a graph of %d blocks", len(g.Next))
		}
		if got, ok := impl.ReachedOf(g); len(got) > 0 || ok {
			t.Errorf("ReachedOf: %v %v", got, ok)
		}
		if got, ok := impl.DominatorsOf(g); len(got) > 0 || ok {
			t.Errorf("DominatorsOf: %v %v", got, ok)
		}
		if got, ok := impl.NearestOf(g); len(got) > 0 || ok {
			t.Errorf("NearestOf: %v %v", got, ok)
		}
		if got, ok := impl.BackEdges(g); len(got) > 0 || ok {
			t.Errorf("BackEdges: %v %v", got, ok)
		}
		for _, a := range numbers {
			if got, ok := impl.Without(g, a); len(got) > 0 || ok {
				t.Errorf("Without %d: %v %v", a, got, ok)
			}
			for _, b := range numbers {
				if got, ok := impl.LoopOf(g, a, b); len(got) > 0 || ok {
					t.Errorf("LoopOf %d, %d: %v %v", a, b, got, ok)
				}
			}
		}
		checkKept(t, g, kept)
	}
}

// TestFlowOfEmptyAndNil: the empty list and the nil list are the same.
func TestFlowOfEmptyAndNil(t *testing.T) {
	for _, g := range []impl.Graph{{Next: [][]int{nil}}, {Next: [][]int{{}}}, {Next: [][]int{{1}, nil, {}}}, {Next: [][]int{{1}, {}, nil}}, {Next: [][]int{{}, nil, {0, 2}}}} {
		checkFlow(t, g)
	}
}

// TestFlowBehindTheLength: what lies behind a list's length is neither read, nor written, nor handed out.
func TestFlowBehindTheLength(t *testing.T) {
	r := draw(1004)
	for range 500 {
		g := drawGraph(&r, impl.MaxBlocks)
		junk := []int{len(g.Next) - 1, -9, 0}
		long := impl.Graph{Next: withMore(g.Next, junk, nil)}
		for b := range long.Next {
			long.Next[b] = withMore(long.Next[b], junk...)
		}
		checkFlow(t, long)
		for b := range long.Next {
			if !slices.Equal(behind(long.Next[b], 3), junk) {
				t.Fatal("written behind a list's length")
			}
		}
		if more := behind(long.Next, 2); !slices.Equal(more[0], []int{len(g.Next) - 1, -9, 0}) || more[1] != nil {
			t.Fatal("written behind the graph's length")
		}
	}
	// What would be good with what lies behind it, is not; what would not, is.
	if g := graphOf("1 ."); impl.GoodGraph(impl.Graph{Next: g.Next[:1]}) || impl.GoodGraph(impl.Graph{Next: g.Next[:0]}) {
		t.Error("told good: a graph cut off")
	}
	checkFlow(t, impl.Graph{Next: make([][]int, 13)[:12]})
	checkFlow(t, impl.Graph{Next: [][]int{[]int{0, 1, 1}[:2], []int{0, 2}[:1]}})
}

// TestFlowOfSharedLists: lists of one graph may share memory.
func TestFlowOfSharedLists(t *testing.T) {
	all := numbersTo(impl.MaxBlocks)
	g := impl.Graph{}
	for b := range impl.MaxBlocks {
		g.Next = append(g.Next, all[b/2:b/2+3])
	}
	checkFlow(t, g)
	checkFlow(t, impl.Graph{Next: slices.Repeat([][]int{all}, impl.MaxBlocks)})
	if !slices.Equal(all, numbersTo(impl.MaxBlocks)) {
		t.Errorf("written: %v", all)
	}
}

func scribbleNumbers(l []int) {
	l = l[:cap(l)]
	for k := range l {
		l[k] = -7
	}
}

// scribbleLists writes into each list as far as its memory goes, and tells a fault where one written into was another one's.
func scribbleLists(t *testing.T, lists [][]int) {
	t.Helper()
	for k := range lists {
		later := cloneLists(lists[k+1:])
		scribbleNumbers(lists[k])
		if !sameLists(lists[k+1:], later) {
			t.Fatalf("two lists of one answer share memory: %v", lists)
		}
	}
}

// TestFlowAnswersOfTheirOwn writes into each list of an answer: no argument may change, no other list, and what was told is told again.
func TestFlowAnswersOfTheirOwn(t *testing.T) {
	r := draw(1005)
	for range 300 {
		g := drawGraph(&r, impl.MaxBlocks)
		kept := cloneGraph(g)
		for range 2 {
			checkFlow(t, g)
			reached, _ := impl.ReachedOf(g)
			scribbleNumbers(reached)
			dominators, _ := impl.DominatorsOf(g)
			scribbleLists(t, dominators)
			nearest, _ := impl.NearestOf(g)
			scribbleNumbers(nearest)
			for k := range g.Next {
				left, _ := impl.Without(g, k)
				scribbleNumbers(left)
			}
			back, _ := impl.BackEdges(g)
			for _, edge := range cloneLists(back) {
				loop, _ := impl.LoopOf(g, edge[0], edge[1])
				scribbleNumbers(loop)
			}
			scribbleLists(t, back)
			if !sameLists(g.Next, kept.Next) {
				t.Fatalf("an answer shares memory with %v", kept.Next)
			}
		}
	}
}
