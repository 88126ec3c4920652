package tests

import (
	"slices"
	"strings"
	"testing"

	"loop.example/g00339/impl"
)

// listsOf reads lists of numbers, with blanks between the lists, and a point for one without numbers.
func listsOf(text string) [][]int {
	var out [][]int
	for _, word := range strings.Fields(text) {
		if word == "." {
			word = ""
		}
		out = append(out, numbersOf(word))
	}
	return out
}

func graphOf(text string) impl.Graph {
	return impl.Graph{Next: listsOf(text)}
}

func cloneGraph(g impl.Graph) impl.Graph {
	return impl.Graph{Next: cloneLists(g.Next)}
}

func cloneLists(l [][]int) [][]int {
	out := make([][]int, len(l))
	for k := range l {
		out[k] = slices.Clone(l[k])
	}
	return out
}

func sameLists(a, b [][]int) bool {
	return slices.EqualFunc(a, b, slices.Equal)
}

// nextOf tells a graph in which b goes on to c just where goes tells it.
func nextOf(blocks int, goes func(b, c int) bool) impl.Graph {
	g := impl.Graph{Next: make([][]int, blocks)}
	for b := range blocks {
		for c := range blocks {
			if goes(b, c) {
				g.Next[b] = append(g.Next[b], c)
			}
		}
	}
	return g
}

// allGraphs hands on each graph of so many blocks.
func allGraphs(blocks int, each func(g impl.Graph)) {
	for bits := range 1 << (blocks * blocks) {
		each(nextOf(blocks, func(b, c int) bool {
			return bits>>(b*blocks+c)&1 == 1
		}))
	}
}

// straight goes from each block on to the next one.
func straight(blocks int) impl.Graph {
	return nextOf(blocks, func(b, c int) bool { return c == b+1 })
}

// complete goes from each block on to each.
func complete(blocks int) impl.Graph {
	return nextOf(blocks, func(b, c int) bool { return true })
}

// drawGraph draws a good graph: any edges, few or many; or mostly straight on, with some that leap and some that go back, so that many dominate others.
func drawGraph(r *draw, most int) impl.Graph {
	blocks := 1 + r.below(most)
	if r.below(2) == 0 {
		parts := 1 + r.below(2*blocks)
		return nextOf(blocks, func(b, c int) bool { return r.below(2*blocks) < parts })
	}
	order := make([]int, blocks)
	for k := range order {
		order[k] = k
	}
	for k := blocks - 1; k > 1; k-- {
		other := 1 + r.below(k)
		order[k], order[other] = order[other], order[k]
	}
	broken, leaps := 4+r.below(12), 3+r.below(20)
	return nextOf(blocks, func(b, c int) bool {
		switch far := order[c] - order[b]; {
		case far == 1:
			return r.below(broken) > 0
		case far == 2:
			return r.below(3) == 0
		}
		return r.below(leaps) == 0
	})
}

// drawThin draws a good graph with at most two edges a block, so that all its ways can be gone.
func drawThin(r *draw, most int) impl.Graph {
	g := drawGraph(r, most)
	for b, next := range g.Next {
		for len(next) > 2 {
			k := r.below(len(next))
			next = slices.Delete(next, k, k+1)
		}
		g.Next[b] = next
	}
	return g
}

// plainReach marks what is reached from a block, going through none that is marked already.
func plainReach(g impl.Graph, block int, marked []bool) {
	if marked[block] {
		return
	}
	marked[block] = true
	for _, next := range g.Next[block] {
		plainReach(g, next, marked)
	}
}

// plainLeads tells whether a way leads from one block to another that touches none of the barred ones.
func plainLeads(g impl.Graph, from, to int, barred ...int) bool {
	marked := make([]bool, len(g.Next))
	for _, b := range barred {
		marked[b] = true
	}
	was := slices.Clone(marked)
	plainReach(g, from, marked)
	return marked[to] && !was[to]
}

// plainList tells the blocks, rising, of which is holds.
func plainList(g impl.Graph, is func(b int) bool) []int {
	var out []int
	for b := range g.Next {
		if is(b) {
			out = append(out, b)
		}
	}
	return out
}

func plainReached(g impl.Graph) []int {
	return plainList(g, func(b int) bool { return plainLeads(g, 0, b) })
}

func plainWithout(g impl.Graph, k int) []int {
	return plainList(g, func(b int) bool { return plainLeads(g, 0, b, k) })
}

// plainDominators tells of each block those without which nobody gets there.
func plainDominators(g impl.Graph) [][]int {
	out := make([][]int, len(g.Next))
	for b := range out {
		if plainLeads(g, 0, b) {
			out[b] = plainList(g, func(k int) bool { return !plainLeads(g, 0, b, k) })
		}
	}
	return out
}

// waysOn hands on each way that goes on from the blocks of way, no block twice.
func waysOn(g impl.Graph, way []int, each func(way []int)) {
	each(way)
	for _, next := range g.Next[way[len(way)-1]] {
		if !slices.Contains(way, next) {
			waysOn(g, append(slices.Clone(way), next), each)
		}
	}
}

// dominatorsByWays keeps of each block what all ways to it have; a way that goes through a block twice goes through no fewer than one that does not.
func dominatorsByWays(g impl.Graph) [][]int {
	out := make([][]int, len(g.Next))
	waysOn(g, []int{0}, func(way []int) {
		b := way[len(way)-1]
		if out[b] == nil {
			out[b] = slices.Sorted(slices.Values(way))
		}
		out[b] = slices.DeleteFunc(out[b], func(k int) bool { return !slices.Contains(way, k) })
	})
	return out
}

// plainNearest looks for the one that all the others dominate; more than one would be a fault.
func plainNearest(t *testing.T, dominators [][]int, b int) int {
	t.Helper()
	found := -1
	for _, k := range dominators[b] {
		all := k != b
		for _, other := range dominators[b] {
			all = all && (other == b || slices.Contains(dominators[k], other))
		}
		if all && found >= 0 {
			t.Errorf("%d and %d are both nearest of %d in %v", found, k, b, dominators)
		}
		if all {
			found = k
		}
	}
	return found
}

func plainBackEdges(g impl.Graph, dominators [][]int) [][]int {
	var out [][]int
	for from := range g.Next {
		for to := range g.Next {
			if slices.Contains(g.Next[from], to) && slices.Contains(dominators[from], to) {
				out = append(out, []int{from, to})
			}
		}
	}
	return out
}

func plainLoop(g impl.Graph, from, to int) []int {
	return plainList(g, func(b int) bool { return b == to || plainLeads(g, b, from, to) })
}

// checkKept tells a fault where a call changed its graph.
func checkKept(t *testing.T, g, kept impl.Graph) {
	t.Helper()
	if !sameLists(g.Next, kept.Next) {
		t.Errorf("changed: %v, was %v", g.Next, kept.Next)
	}
}

func checkReached(t *testing.T, g impl.Graph, want []int, is bool) {
	t.Helper()
	kept := cloneGraph(g)
	if got, ok := impl.ReachedOf(g); ok != is || !slices.Equal(got, want) {
		t.Errorf("ReachedOf(%v): %v %v, want %v %v", g.Next, got, ok, want, is)
	}
	checkKept(t, g, kept)
}

func checkWithout(t *testing.T, g impl.Graph, k int, want []int, is bool) {
	t.Helper()
	kept := cloneGraph(g)
	if got, ok := impl.Without(g, k); ok != is || !slices.Equal(got, want) {
		t.Errorf("Without(%v, %d): %v %v, want %v %v", g.Next, k, got, ok, want, is)
	}
	checkKept(t, g, kept)
}

func checkDominators(t *testing.T, g impl.Graph, want [][]int, is bool) {
	t.Helper()
	kept := cloneGraph(g)
	if got, ok := impl.DominatorsOf(g); ok != is || !sameLists(got, want) {
		t.Errorf("DominatorsOf(%v): %v %v, want %v %v", g.Next, got, ok, want, is)
	}
	checkKept(t, g, kept)
}

func checkNearest(t *testing.T, g impl.Graph, want []int, is bool) {
	t.Helper()
	kept := cloneGraph(g)
	if got, ok := impl.NearestOf(g); ok != is || !slices.Equal(got, want) {
		t.Errorf("NearestOf(%v): %v %v, want %v %v", g.Next, got, ok, want, is)
	}
	checkKept(t, g, kept)
}

func checkBackEdges(t *testing.T, g impl.Graph, want [][]int, is bool) {
	t.Helper()
	kept := cloneGraph(g)
	if got, ok := impl.BackEdges(g); ok != is || !sameLists(got, want) {
		t.Errorf("BackEdges(%v): %v %v, want %v %v", g.Next, got, ok, want, is)
	}
	checkKept(t, g, kept)
}

func checkLoop(t *testing.T, g impl.Graph, from, to int, want []int, is bool) {
	t.Helper()
	kept := cloneGraph(g)
	if got, ok := impl.LoopOf(g, from, to); ok != is || !slices.Equal(got, want) {
		t.Errorf("LoopOf(%v, %d, %d): %v %v, want %v %v", g.Next, from, to, got, ok, want, is)
	}
	checkKept(t, g, kept)
}

// checkFlow holds all that is told of a good graph against the plain words.
func checkFlow(t *testing.T, g impl.Graph) {
	t.Helper()
	if !impl.GoodGraph(g) {
		t.Errorf("told not good: %v", g.Next)
	}
	checkReached(t, g, plainReached(g), true)
	for k := range g.Next {
		checkWithout(t, g, k, plainWithout(g, k), true)
	}
	dominators := plainDominators(g)
	checkDominators(t, g, dominators, true)
	nearest := make([]int, len(g.Next))
	for b := range nearest {
		nearest[b] = plainNearest(t, dominators, b)
	}
	checkNearest(t, g, nearest, true)
	back := plainBackEdges(g, dominators)
	checkBackEdges(t, g, back, true)
	for from := range g.Next {
		for to := range g.Next {
			if slices.ContainsFunc(back, func(e []int) bool { return e[0] == from && e[1] == to }) {
				checkLoop(t, g, from, to, plainLoop(g, from, to), true)
			} else {
				checkLoop(t, g, from, to, nil, false)
			}
		}
	}
}
