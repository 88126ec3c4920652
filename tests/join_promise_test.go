package tests

import (
	"slices"
	"testing"

	"loop.example/g00339/impl"
)

// checkPromise11 holds owners against one another along the edges; tells how many blocks take theirs from those that go on to them.
func checkPromise11(t *testing.T, g impl.Graph, preds, dominators [][]int, sets []int) int {
	t.Helper()
	joins, ok := impl.JoinsOf(g, sets)
	owners, too := impl.OwnerAt(g, sets)
	if !ok || !too || len(owners) != len(g.Next) || !plainRising(joins, len(g.Next)) {
		t.Fatalf("%v with the sets %v: %v %v", g.Next, sets, joins, owners)
	}
	count := 0
	for b, owner := range owners {
		if len(dominators[b]) == 0 {
			if owner != -1 || slices.Contains(joins, b) {
				t.Fatalf("%v with the sets %v: %d is not reached, joins %v, owners %v", g.Next, sets, b, joins, owners)
			}
			continue
		}
		is := slices.Contains(sets, b) || slices.Contains(joins, b)
		if is != (owner == b) || !slices.Contains(dominators[b], owner) || owners[owner] != owner {
			t.Fatalf("%v with the sets %v: joins %v, owners %v: that of %d", g.Next, sets, joins, owners, b)
		}
		for _, p := range preds[b] {
			if !is && owners[p] != owner {
				t.Fatalf("%v with the sets %v: joins %v, owners %v: %d goes on to %d", g.Next, sets, joins, owners, p, b)
			}
		}
		if !is && len(preds[b]) > 1 {
			count++
		}
	}
	return count
}

func predsAndDominators(t *testing.T, g impl.Graph) ([][]int, [][]int) {
	t.Helper()
	preds, ok := impl.PredsOf(g)
	dominators, too := impl.DominatorsOf(g)
	if !ok || !too || len(preds) != len(g.Next) || len(dominators) != len(g.Next) {
		t.Fatalf("%v: %v %v", g.Next, preds, dominators)
	}
	return preds, dominators
}

func TestPromise11OfAll(t *testing.T) {
	for blocks := 1; blocks <= 4; blocks++ {
		allGraphs(blocks, func(g impl.Graph) {
			preds, dominators := predsAndDominators(t, g)
			reached, _ := impl.ReachedOf(g)
			sublists(reached[1:], func(some []int) {
				sets := append([]int{0}, some...)
				checkPromise11(t, g, preds, dominators, sets)
				checkSets(t, g, preds, sets)
			})
			if t.Failed() {
				t.FailNow()
			}
		})
	}
}

func TestPromise11Drawn(t *testing.T) {
	r := draw(1103)
	count := 0
	for range 6000 {
		g := drawGraph(&r, impl.MaxBlocks)
		preds, dominators := predsAndDominators(t, g)
		for range 3 {
			sets := drawSets(&r, plainReached(g))
			count += checkPromise11(t, g, preds, dominators, sets)
			checkSets(t, g, preds, sets)
		}
		if t.Failed() {
			t.FailNow()
		}
	}
	if count < 2000 {
		t.Errorf("too few blocks at which ways come together and do not join: %d", count)
	}
}

// TestJoinsAreNeeded: each join is one where unlike owners come together, or one comes together with what was ahead of all.
func TestJoinsAreNeeded(t *testing.T) {
	r := draw(1104)
	for range 4000 {
		g := drawGraph(&r, impl.MaxBlocks)
		preds, _ := predsAndDominators(t, g)
		sets := drawSets(&r, plainReached(g))
		joins, _ := impl.JoinsOf(g, sets)
		owners, _ := impl.OwnerAt(g, sets)
		for _, b := range joins {
			var come []int
			for _, p := range preds[b] {
				come = append(come, owners[p])
			}
			slices.Sort(come)
			if b != 0 && len(slices.Compact(come)) < 2 || len(come) == 0 {
				t.Fatalf("%v with the sets %v: %d is a join, owners %v", g.Next, sets, b, owners)
			}
		}
	}
}
