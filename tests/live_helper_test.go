package tests

import (
	"slices"
	"testing"

	"loop.example/g00339/impl"
)

// flowOf reads a flow: its graph, and of each block what it uses and what it sets, as listsOf reads them.
func flowOf(graph, uses, sets string) impl.Flow {
	f := impl.Flow{Graph: graphOf(graph)}
	used, set := listsOf(uses), listsOf(sets)
	for b := range used {
		f.Blocks = append(f.Blocks, impl.Block{Uses: used[b], Sets: set[b]})
	}
	return f
}

func cloneFlow(f impl.Flow) impl.Flow {
	out := impl.Flow{Graph: cloneGraph(f.Graph), Blocks: slices.Clone(f.Blocks)}
	for b, block := range out.Blocks {
		out.Blocks[b] = impl.Block{Uses: slices.Clone(block.Uses), Sets: slices.Clone(block.Sets)}
	}
	return out
}

func sameFlow(a, b impl.Flow) bool {
	return sameLists(a.Graph.Next, b.Graph.Next) && slices.EqualFunc(a.Blocks, b.Blocks, func(x, y impl.Block) bool {
		return slices.Equal(x.Uses, y.Uses) && slices.Equal(x.Sets, y.Sets)
	})
}

// namesOf tells the names, rising, whose bits are set.
func namesOf(bits int) []int {
	var out []int
	for name := range 20 {
		if bits>>name&1 == 1 {
			out = append(out, name)
		}
	}
	return out
}

// blocksOf makes blocks of a number: for each block as many bits as there are names for what it uses, and as many for what it sets.
func blocksOf(bits, blocks, names int) []impl.Block {
	out := make([]impl.Block, blocks)
	some := 1<<names - 1
	for b := range out {
		out[b] = impl.Block{Uses: namesOf(bits & some), Sets: namesOf(bits >> names & some)}
		bits >>= 2 * names
	}
	return out
}

// allFlows hands on each flow of so many blocks, with so many names.
func allFlows(blocks, names int, each func(f impl.Flow)) {
	allGraphs(blocks, func(g impl.Graph) {
		for bits := range 1 << (blocks * names * 2) {
			each(impl.Flow{Graph: g, Blocks: blocksOf(bits, blocks, names)})
		}
	})
}

// drawBlocks draws what each block of a graph uses and sets: seldom or often, of all names.
func drawBlocks(r *draw, g impl.Graph) impl.Flow {
	f := impl.Flow{Graph: g, Blocks: make([]impl.Block, len(g.Next))}
	all := numbersTo(impl.MaxNames)
	some := func(of int) []int {
		return slices.DeleteFunc(slices.Clone(all), func(int) bool { return r.below(of) > 0 })
	}
	uses, sets := 2+r.below(10), 2+r.below(10)
	for b := range f.Blocks {
		f.Blocks[b] = impl.Block{Uses: some(uses), Sets: some(sets)}
	}
	return f
}

// plainNeeds looks for a block that uses the name, going on through those that do not set it, through each once.
func plainNeeds(f impl.Flow, block, name int, seen []bool) bool {
	if slices.Contains(f.Blocks[block].Uses, name) {
		return true
	}
	if seen[block] || slices.Contains(f.Blocks[block].Sets, name) {
		return false
	}
	seen[block] = true
	return slices.ContainsFunc(f.Graph.Next[block], func(next int) bool { return plainNeeds(f, next, name, seen) })
}

func plainLiveIn(f impl.Flow) [][]int {
	out := make([][]int, len(f.Blocks))
	for b := range out {
		for name := range impl.MaxNames {
			if plainNeeds(f, b, name, make([]bool, len(f.Blocks))) {
				out[b] = append(out[b], name)
			}
		}
	}
	return out
}

func plainLiveOut(f impl.Flow, in [][]int) [][]int {
	out := make([][]int, len(f.Blocks))
	for b := range out {
		for _, next := range f.Graph.Next[b] {
			out[b] = merged(out[b], in[next])
		}
	}
	return out
}

func plainDead(f impl.Flow, out [][]int) [][]int {
	dead := cloneLists(out)
	for b := range dead {
		dead[b] = slices.DeleteFunc(slices.Clone(f.Blocks[b].Sets), func(name int) bool { return slices.Contains(out[b], name) })
	}
	return dead
}

func plainClashes(in [][]int) [][]int {
	out := make([][]int, impl.MaxNames)
	for a := range out {
		for b := range out {
			if a != b && slices.ContainsFunc(in, func(l []int) bool { return slices.Contains(l, a) && slices.Contains(l, b) }) {
				out[a] = append(out[a], b)
			}
		}
	}
	return out
}

// plainComesBack tells whether a block that goes on to such lists must have a name in its own one.
func plainComesBack(f impl.Flow, in [][]int, block, name int) bool {
	if slices.Contains(f.Blocks[block].Uses, name) {
		return true
	}
	return !slices.Contains(f.Blocks[block].Sets, name) && slices.ContainsFunc(f.Graph.Next[block], func(next int) bool { return slices.Contains(in[next], name) })
}

func plainFixed(f impl.Flow, in [][]int) bool {
	for b := range in {
		for name := range impl.MaxNames {
			if slices.Contains(in[b], name) != plainComesBack(f, in, b, name) {
				return false
			}
		}
	}
	return true
}

// plainNeeded asks of each block of a way whether it uses the name, and of each one ahead of it whether it sets that.
func plainNeeded(f impl.Flow, way []int, name int) bool {
	for k, block := range way {
		sets := slices.ContainsFunc(way[:k], func(b int) bool { return slices.Contains(f.Blocks[b].Sets, name) })
		if slices.Contains(f.Blocks[block].Uses, name) && !sets {
			return true
		}
	}
	return false
}

// isWithin tells whether no list has what the other one at its place has not.
func isWithin(less, more [][]int) bool {
	return slices.EqualFunc(less, more, func(a, b []int) bool {
		return !slices.ContainsFunc(a, func(n int) bool { return !slices.Contains(b, n) })
	})
}

func checkFlowKept(t *testing.T, f, kept impl.Flow) {
	t.Helper()
	if !sameFlow(f, kept) {
		t.Errorf("changed: %v, was %v", f, kept)
	}
}

// checkLists holds one answer of lists against what is wanted, and the flow against what it was.
func checkLists(t *testing.T, what string, call func(impl.Flow) ([][]int, bool), f impl.Flow, want [][]int, is bool) {
	t.Helper()
	kept := cloneFlow(f)
	if got, ok := call(f); ok != is || !sameLists(got, want) {
		t.Errorf("%s(%v): %v %v, want %v %v", what, f, got, ok, want, is)
	}
	checkFlowKept(t, f, kept)
}

func checkLiveIn(t *testing.T, f impl.Flow, want [][]int, is bool) {
	t.Helper()
	checkLists(t, "LiveIn", impl.LiveIn, f, want, is)
}

func checkLiveOut(t *testing.T, f impl.Flow, want [][]int, is bool) {
	t.Helper()
	checkLists(t, "LiveOut", impl.LiveOut, f, want, is)
}

func checkDead(t *testing.T, f impl.Flow, want [][]int, is bool) {
	t.Helper()
	checkLists(t, "DeadSets", impl.DeadSets, f, want, is)
}

func checkClashes(t *testing.T, f impl.Flow, want [][]int, is bool) {
	t.Helper()
	checkLists(t, "ClashesOf", impl.ClashesOf, f, want, is)
}

func checkNeeded(t *testing.T, f impl.Flow, way []int, name int, want bool, is bool) {
	t.Helper()
	kept, wayKept := cloneFlow(f), slices.Clone(way)
	if got, ok := impl.NeededOn(f, way, name); ok != is || got != want {
		t.Errorf("NeededOn(%v, %v, %d): %v %v, want %v %v", f, way, name, got, ok, want, is)
	}
	checkFlowKept(t, f, kept)
	checkNumbersKept(t, way, wayKept)
}

func checkFixed(t *testing.T, f impl.Flow, in [][]int, want bool, is bool) {
	t.Helper()
	kept, inKept := cloneFlow(f), cloneLists(in)
	if got, ok := impl.IsFixed(f, in); ok != is || got != want {
		t.Errorf("IsFixed(%v, %v): %v %v, want %v %v", f, in, got, ok, want, is)
	}
	checkFlowKept(t, f, kept)
	if !sameLists(in, inKept) {
		t.Errorf("changed: %v, was %v", in, inKept)
	}
}

// checkLive holds all lists that are told of a good flow against the plain words.
func checkLive(t *testing.T, f impl.Flow) {
	t.Helper()
	if !impl.GoodFlow(f) {
		t.Errorf("told not good: %v", f)
	}
	in := plainLiveIn(f)
	out := plainLiveOut(f, in)
	checkLiveIn(t, f, in, true)
	checkLiveOut(t, f, out, true)
	checkDead(t, f, plainDead(f, out), true)
	checkClashes(t, f, plainClashes(in), true)
	checkFixed(t, f, in, true, true)
}

// checkAllRefused asks each function of a flow that is not good, with ways, names and lists that would be good, and such that would not.
func checkAllRefused(t *testing.T, f impl.Flow) {
	t.Helper()
	if impl.GoodFlow(f) {
		t.Errorf("told good: %v", f)
	}
	checkLiveIn(t, f, nil, false)
	checkLiveOut(t, f, nil, false)
	checkDead(t, f, nil, false)
	checkClashes(t, f, nil, false)
	for _, way := range [][]int{nil, {0}, {0, 1}, {1}, {-1}, {12}} {
		for _, name := range []int{-1, 0, 1, 7, 8} {
			checkNeeded(t, f, way, name, false, false)
		}
	}
	for _, in := range [][][]int{nil, {nil}, {{0}}, {{-1}}, make([][]int, len(f.Blocks)), make([][]int, len(f.Graph.Next))} {
		checkFixed(t, f, in, false, false)
	}
}
