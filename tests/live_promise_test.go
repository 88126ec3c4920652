package tests

import (
	"slices"
	"testing"

	"loop.example/g00339/impl"
)

// allWays hands on each way of at most so many blocks that begins with way, blocks twice or more on it, too.
func allWays(g impl.Graph, way []int, most int, each func(way []int)) {
	each(way)
	if len(way) == most {
		return
	}
	for _, next := range g.Next[way[len(way)-1]] {
		allWays(g, append(slices.Clone(way), next), most, each)
	}
}

// neededOnWays asks NeededOn of all ways, and tells for each block the names that one of them from it on needs.
func neededOnWays(t *testing.T, f impl.Flow, names int, ways func(from int, each func(way []int))) [][]int {
	t.Helper()
	out := make([][]int, len(f.Blocks))
	for b := range out {
		var marked [impl.MaxNames]bool
		ways(b, func(way []int) {
			for name := range names {
				needed, ok := impl.NeededOn(f, way, name)
				if !ok {
					t.Fatalf("NeededOn(%v, %v, %d) is refused", f, way, name)
				}
				marked[name] = marked[name] || needed
			}
		})
		for name, is := range marked {
			if is {
				out[b] = append(out[b], name)
			}
		}
	}
	return out
}

// checkPromise12 holds LiveIn against what the ways need.
func checkPromise12(t *testing.T, f impl.Flow, names int, ways func(from int, each func(way []int))) {
	t.Helper()
	in, ok := impl.LiveIn(f)
	if want := neededOnWays(t, f, names, ways); !ok || !sameLists(in, want) {
		t.Fatalf("%v: LiveIn tells %v %v, on ways are needed %v", f, in, ok, want)
	}
}

// checkLeast holds LiveIn against other lists: none that are fixed have less.
func checkLeast(t *testing.T, f impl.Flow, others func(each func(in [][]int))) {
	t.Helper()
	in, _ := impl.LiveIn(f)
	if fixed, ok := impl.IsFixed(f, in); !fixed || !ok {
		t.Fatalf("%v: LiveIn tells %v, which are not fixed", f, in)
	}
	others(func(other [][]int) {
		fixed, ok := impl.IsFixed(f, other)
		if !ok || fixed != plainFixed(f, other) {
			t.Fatalf("IsFixed(%v, %v): %v %v", f, other, fixed, ok)
		}
		if fixed && !isWithin(in, other) {
			t.Fatalf("%v: LiveIn tells %v, but %v are fixed, too", f, in, other)
		}
	})
}

// allLists hands on all lists of names for so many blocks.
func allLists(blocks, names int, each func(in [][]int)) {
	for bits := range 1 << (blocks * names) {
		in := make([][]int, blocks)
		for b := range in {
			in[b] = namesOf(bits >> (b * names) & (1<<names - 1))
		}
		each(in)
	}
}

func TestPromise12OfAll(t *testing.T) {
	for _, few := range [][2]int{{1, 1}, {1, 2}, {1, 3}, {2, 1}, {2, 2}, {3, 1}} {
		blocks, names := few[0], few[1]
		count := 0
		allFlows(blocks, names, func(f impl.Flow) {
			count++
			checkPromise12(t, f, names, func(from int, each func(way []int)) {
				allWays(f.Graph, []int{from}, blocks, each)
			})
			checkLeast(t, f, func(each func(in [][]int)) { allLists(blocks, names, each) })
			checkLive(t, f)
		})
		if want := 1 << (blocks*blocks + blocks*names*2); count != want {
			t.Errorf("%d flows of %d blocks and %d names, want %d", count, blocks, names, want)
		}
	}
}

// TestPromise12ByAllWays draws small flows, and goes all their ways.
func TestPromise12ByAllWays(t *testing.T) {
	r := draw(1205)
	for range 1500 {
		f := drawBlocks(&r, drawGraph(&r, 4))
		checkPromise12(t, f, impl.MaxNames, func(from int, each func(way []int)) {
			allWays(f.Graph, []int{from}, len(f.Blocks), each)
		})
		checkLive(t, f)
	}
}

// TestPromise12Drawn goes all ways that come to no block twice; one that does needs no more than one that does not.
func TestPromise12Drawn(t *testing.T) {
	r := draw(1206)
	needed, not := 0, 0
	for range 600 {
		f := drawBlocks(&r, drawThin(&r, impl.MaxBlocks))
		checkPromise12(t, f, impl.MaxNames, func(from int, each func(way []int)) {
			waysOn(f.Graph, []int{from}, each)
		})
		in, _ := impl.LiveIn(f)
		for b, l := range in {
			needed += len(l) - len(f.Blocks[b].Uses)
			not += impl.MaxNames - len(l)
		}
	}
	if needed < 3000 || not < 3000 {
		t.Errorf("too few names that are needed later on: %d, or not at all: %d", needed, not)
	}
}

func TestLiveDrawn(t *testing.T) {
	r := draw(1207)
	for range 6000 {
		checkLive(t, drawBlocks(&r, drawGraph(&r, impl.MaxBlocks)))
	}
}

// drawFixed begins with any lists, keeps of them what holds up each other, and adds what these then lead back to.
func drawFixed(r *draw, f impl.Flow) [][]int {
	in := make([][]int, len(f.Blocks))
	for b := range in {
		in[b] = drawSome(r, numbersTo(impl.MaxNames))
	}
	for !isWithin(in, backOf(f, in)) {
		back := backOf(f, in)
		for b := range in {
			in[b] = slices.DeleteFunc(in[b], func(name int) bool { return !slices.Contains(back[b], name) })
		}
	}
	for !sameLists(in, backOf(f, in)) {
		in = backOf(f, in)
	}
	return in
}

// backOf tells what lists must hold that go on to these.
func backOf(f impl.Flow, in [][]int) [][]int {
	out := make([][]int, len(in))
	for b := range out {
		for name := range impl.MaxNames {
			if plainComesBack(f, in, b, name) {
				out[b] = append(out[b], name)
			}
		}
	}
	return out
}

func TestLeastOfDrawnFixed(t *testing.T) {
	r := draw(1208)
	more := 0
	for range 3000 {
		f := drawBlocks(&r, drawGraph(&r, impl.MaxBlocks))
		in, _ := impl.LiveIn(f)
		checkLeast(t, f, func(each func(in [][]int)) {
			for range 3 {
				fixed := drawFixed(&r, f)
				checkFixed(t, f, fixed, true, true)
				if !sameLists(fixed, in) {
					more++
				}
				each(fixed)
			}
		})
	}
	if more < 300 {
		t.Errorf("too few fixed lists that are not the least: %d", more)
	}
}
