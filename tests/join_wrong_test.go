package tests

import (
	"slices"
	"testing"

	"loop.example/g00339/impl"
)

func TestJoinWrongGraphs(t *testing.T) {
	numbers := []int{-1 << 63, -13, -1, 0, 1, 2, 11, 12, 13, 1 << 32, 1<<63 - 1}
	lists := [][]int{nil, {}, {0}, {1}, {0, 1}, {1, 0}, {0, 0}, {-1}, {12}, {0, 1<<63 - 1}, {-1 << 63, 0}, numbersTo(12), numbersTo(13), make([]int, 1000)}
	for _, g := range wrongGraphs() {
		checkPreds(t, g, nil, false)
		checkFrontier(t, g, nil, false)
		for _, l := range lists {
			checkJoins(t, g, l, nil, false)
			checkOwners(t, g, l, nil, false)
			for _, other := range lists[:6] {
				checkStrict(t, g, l, other, false, false)
			}
		}
		for _, a := range numbers {
			for _, b := range numbers {
				checkMeeting(t, g, a, b, false, false)
			}
		}
	}
}

// TestJoinsOfEmptyAndNil: the empty list and the nil list are the same.
func TestJoinsOfEmptyAndNil(t *testing.T) {
	for _, g := range []impl.Graph{{Next: [][]int{nil}}, {Next: [][]int{{}}}, {Next: [][]int{{1}, nil, {}}}, {Next: [][]int{{1}, {}, nil}}, {Next: [][]int{{1, 2}, {}, {1}}}} {
		checkEdges(t, g)
		checkSetsByWords(t, g, []int{0})
		for _, none := range [][]int{nil, {}} {
			checkJoins(t, g, none, nil, false)
			checkOwners(t, g, none, nil, false)
			checkStrict(t, g, none, nil, true, true)
			checkStrict(t, g, none, []int{}, true, true)
			checkStrict(t, g, none, []int{0}, false, true)
			checkStrict(t, g, []int{0}, none, true, true)
		}
	}
}

// TestJoinsBehindTheLength: what lies behind a list's length is neither read, nor written, nor handed out.
func TestJoinsBehindTheLength(t *testing.T) {
	r := draw(1105)
	for range 300 {
		g := drawGraph(&r, impl.MaxBlocks)
		junk := []int{len(g.Next) - 1, -9, 0}
		long := impl.Graph{Next: withMore(g.Next, junk, nil)}
		for b := range long.Next {
			long.Next[b] = withMore(long.Next[b], junk...)
		}
		reached := plainReached(g)
		sets, uses := withMore(drawSets(&r, reached), junk...), withMore(drawSome(&r, reached), junk...)
		checkEdges(t, long)
		checkSetsByWords(t, long, sets)
		checkUses(t, long, uses, sets)
		checkUses(t, long, sets, uses)
		for _, l := range append(slices.Clone(long.Next), sets, uses) {
			if !slices.Equal(behind(l, 3), junk) {
				t.Fatal("written behind a list's length")
			}
		}
		if more := behind(long.Next, 2); !slices.Equal(more[0], []int{len(g.Next) - 1, -9, 0}) || more[1] != nil {
			t.Fatal("written behind the graph's length")
		}
	}
	// What would be sets with what lies behind it, is not; what would not, is.
	g := graphOf("1,2 3 3 .")
	checkJoins(t, g, []int{0, 1}[:0], nil, false)
	checkJoins(t, g, []int{0, 2, 1}[:2], []int{3}, true)
	checkOwners(t, g, []int{0, 2, 9}[:2], []int{0, 0, 2, 3}, true)
	checkStrict(t, g, []int{1, 0}[:1], []int{1, 3}[:1], true, true)
	checkStrict(t, g, []int{1, 3}[:1], []int{3, 3}[:1], false, true)
}

// TestJoinsOfSharedLists: lists of one graph, and those beside it, may share memory.
func TestJoinsOfSharedLists(t *testing.T) {
	all := numbersTo(impl.MaxBlocks)
	half, whole := impl.Graph{}, impl.Graph{Next: slices.Repeat([][]int{all}, impl.MaxBlocks)}
	for b := range impl.MaxBlocks {
		half.Next = append(half.Next, all[b/2:b/2+3])
	}
	for _, g := range []impl.Graph{half, whole} {
		checkEdges(t, g)
		for count := 1; count <= len(plainReached(g)); count++ {
			checkSetsByWords(t, g, all[:count])
			checkUses(t, g, all[:count], all[:count])
			checkUses(t, g, all[1:count], all[:count])
		}
	}
	if !slices.Equal(all, numbersTo(impl.MaxBlocks)) {
		t.Errorf("written: %v", all)
	}
}

// TestJoinAnswersOfTheirOwn writes into each list of an answer: no argument may change, no other list, and what was told is told again.
func TestJoinAnswersOfTheirOwn(t *testing.T) {
	r := draw(1106)
	for range 300 {
		g := drawGraph(&r, impl.MaxBlocks)
		sets := drawSets(&r, plainReached(g))
		kept, setsKept := cloneGraph(g), slices.Clone(sets)
		for range 2 {
			checkEdges(t, g)
			checkSetsByWords(t, g, sets)
			preds, _ := impl.PredsOf(g)
			scribbleLists(t, preds)
			frontier, _ := impl.FrontierOf(g)
			scribbleLists(t, frontier)
			joins, _ := impl.JoinsOf(g, sets)
			scribbleNumbers(joins)
			owners, _ := impl.OwnerAt(g, sets)
			scribbleNumbers(owners)
			if !sameLists(g.Next, kept.Next) || !slices.Equal(sets, setsKept) {
				t.Fatalf("an answer shares memory with %v or %v", kept.Next, setsKept)
			}
		}
	}
}
