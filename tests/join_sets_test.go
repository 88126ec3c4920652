package tests

import (
	"slices"
	"testing"

	"loop.example/g00339/impl"
)

func TestJoinsAndOwnersByHand(t *testing.T) {
	for _, one := range [][4]string{
		// Of block 0 alone: no joins, but where it is gone to again.
		{".", "0", "", "0"},
		{"0", "0", "0", "0"},
		{"1 2 3 .", "0", "", "0,0,0,0"},
		{"1,2 3 3 .", "0", "", "0,0,0,0"},
		{"1 2,3 1 .", "0", "", "0,0,0,0"},
		{"1 0", "0", "0", "0,0"},
		{"1,2 3 3 0", "0", "0", "0,0,0,0"},
		// All of the reached blocks.
		{"1 2 3 .", "0,1,2,3", "", "0,1,2,3"},
		{"1,2 3 3 .", "0,1,2,3", "3", "0,1,2,3"},
		{"0,1 0,1", "0,1", "0,1", "0,1"},
		{"1,2 3 3 1,4 . 4", "0,1,2,3,4", "1,3", "0,1,2,3,4,-1"},
		// Ways that part and join: one side, or both, or what is behind.
		{"1,2 3 3 4 .", "0,1", "3", "0,1,0,3,3"},
		{"1,2 3 3 4 .", "0,1,2", "3", "0,1,2,3,3"},
		{"1,2 3 3 4 .", "0,3", "", "0,0,0,3,3"},
		{"1,2 3 3 4 .", "0,4", "", "0,0,0,0,4"},
		{"1,2 3 3 4 .", "0,1,3", "3", "0,1,0,3,3"},
		{"1,2 2 .", "0,1", "2", "0,1,2"},
		{"1,2 . .", "0,1", "", "0,1,0"},
		// Joins in the frontiers of joins.
		{"1,5 2,3 4 4 6 6 7 .", "0,2", "4,6", "0,0,2,0,4,0,6,6"},
		{"1,5 2,3 4 4 6 6 7 .", "0,1", "6", "0,1,1,1,1,0,6,6"},
		{"1,5 2,3 4 4 6 6 7 .", "0,5", "6", "0,0,0,0,0,5,6,6"},
		{"1,3 2,3 3,4 4,5 5 .", "0,2", "3,4,5", "0,0,2,3,4,5"},
		{"1,2 3 3 1,4 .", "0,2", "1,3", "0,1,2,3,3"},
		{"1 2 3 0,4 .", "0,2", "0", "0,0,2,2,2"},
		{"1,6 . 1,3 . 2,5 3 4,7 5", "0,4", "1,3,5", "0,1,4,3,4,5,0,0"},
		// Loops: what is set in one joins at its head.
		{"1 2,3 1 .", "0,2", "1", "0,1,2,1"},
		{"1 2,3 1 .", "0,1", "1", "0,1,1,1"},
		{"1 2,3 1 .", "0,3", "", "0,0,0,3"},
		{"1 1,2 .", "0,1", "1", "0,1,1"},
		{"1 2 2,3 1,4 .", "0,2", "1,2", "0,1,2,2,2"},
		{"1 2 2,3 1,4 .", "0,3", "1", "0,1,1,3,3"},
		// Loops with two entries.
		{"1,2 2 1", "0", "", "0,0,0"},
		{"1,2 2 1", "0,1", "1,2", "0,1,2"},
		{"1,2 3 4 2 1", "0,3", "1,2", "0,1,2,3,2"},
		// The nearest one, where several are ahead.
		{"1 2 3 4 5 .", "0,1,3", "", "0,1,1,3,3,3"},
		{"5 . 1 2 3 4", "0,3,4", "", "0,3,3,3,4,0"},
		{"1 2,3 4 4 5 .", "0,1,2", "4", "0,1,2,1,4,4"},
		// Blocks that are not reached join nothing, and have no owner.
		{". 0", "0", "", "0,-1"},
		{"1 2 . 0,1,2,3", "0,1", "", "0,1,1,-1"},
		{"1,2 . . 1,2", "0,1,2", "", "0,1,2,-1"},
		{"2 2 2", "0,2", "2", "0,-1,2"},
	} {
		g, sets := graphOf(one[0]), numbersOf(one[1])
		checkJoins(t, g, sets, numbersOf(one[2]), true)
		checkOwners(t, g, sets, numbersOf(one[3]), true)
	}
}

// TestJoinsSettleLate: frontiers of frontiers in the order against that of the blocks, and a long row of them.
func TestJoinsSettleLate(t *testing.T) {
	up := nextOf(impl.MaxBlocks, func(b, c int) bool { return c == b+1 || b == 0 && c > 0 })
	checkJoins(t, up, []int{0}, nil, true)
	checkJoins(t, up, []int{0, 1}, numbersTo(12)[2:], true)
	checkJoins(t, up, []int{0, 6}, numbersTo(12)[7:], true)
	down := nextOf(impl.MaxBlocks, func(b, c int) bool { return c == b-1 && c > 0 || b == 0 && c > 0 })
	checkJoins(t, down, []int{0}, nil, true)
	checkJoins(t, down, []int{0, 11}, numbersTo(11)[1:], true)
	checkJoins(t, down, []int{0, 6}, numbersTo(6)[1:], true)
	for _, g := range []impl.Graph{up, down} {
		checkEdges(t, g)
		for b := 1; b < impl.MaxBlocks; b++ {
			checkSets(t, g, plainPreds(g), []int{0, b})
			checkSetsByWords(t, g, []int{0, b})
		}
	}
}

// badSets tells, of a graph of 6 blocks that reaches all but the last one, lists that are no sets there.
func badSets() [][]int {
	const most, least = 1<<63 - 1, -1 << 63
	return [][]int{
		nil, {},
		// Without 0.
		{1}, {4}, {1, 2, 3, 4},
		// That do not rise, or name a block twice.
		{1, 0}, {0, 2, 1}, {4, 3, 2, 1, 0}, {0, 0}, {0, 1, 1}, {0, 1, 2, 2}, {0, 1, 0}, {0, 1, 2, 1}, {0, 0, 1, 2, 3, 4}, make([]int, 100000),
		// With a block that is not reached.
		{5}, {0, 5}, {0, 1, 2, 3, 4, 5},
		// With what is no block.
		{-1}, {-1, 0}, {0, -1}, {6}, {0, 6}, {0, 1, 6}, {0, 11}, {0, 12}, {0, 13}, {0, most}, {least, 0}, {least, 0, most}, {0, 1, 2, 3, 4, 6}, numbersTo(100000),
	}
}

func TestNoSets(t *testing.T) {
	for _, text := range []string{"1,2 3 3 1,4 . 4", "1,2 3 3 1,4 . 0,5", "1,2 3 3 1,4 . ."} {
		for _, sets := range badSets() {
			checkJoins(t, graphOf(text), sets, nil, false)
			checkOwners(t, graphOf(text), sets, nil, false)
		}
	}
	for _, sets := range [][]int{nil, {}, {1}, {0, 1}, {-1}, {0, 0}} {
		checkJoins(t, graphOf("0"), sets, nil, false)
		checkOwners(t, graphOf("0"), sets, nil, false)
	}
}

func TestStrictByHand(t *testing.T) {
	const joined, looped = "1,2 3 3 4 . 4", "1 2,3 1 . 3"
	for _, one := range []struct {
		graph, sets, uses string
		want              bool
	}{
		// No uses; no sets.
		{".", "", "", true},
		{joined, "", "", true},
		{joined, "1", "", true},
		{joined, "0,1,2,3,4", "", true},
		{joined, "", "0", false},
		{joined, "", "0,1,2,3,4", false},
		// With 0 among the sets each use is dominated.
		{joined, "0", "0,1,2,3,4", true},
		{joined, "0,3", "0,1,2,3,4", true},
		// Sets that lack 0.
		{joined, "1", "1", true},
		{joined, "1", "3", false},
		{joined, "1", "0", false},
		{joined, "3", "3,4", true},
		{joined, "3", "4", true},
		{joined, "3", "2,4", false},
		{joined, "4", "3", false},
		{joined, "1,4", "1,4", true},
		{joined, "1,3", "1,3,4", true},
		{joined, "1,3", "1,2,3,4", false},
		{joined, "1,3", "0,1", false},
		// Each way goes through a set, but no set dominates.
		{joined, "1,2", "3", false},
		{joined, "1,2", "1,2,4", false},
		{joined, "1,2", "1,2", true},
		{joined, "1,2,3", "1,2,3,4", true},
		// Loops.
		{looped, "1", "1,2,3", true},
		{looped, "2", "1", false},
		{looped, "2", "2", true},
		{looped, "2", "3", false},
		{looped, "2,3", "2,3", true},
		{"1,2 2 1", "1", "2", false},
		{"1,2 2 1", "1,2", "1,2", true},
	} {
		checkStrict(t, graphOf(one.graph), numbersOf(one.sets), numbersOf(one.uses), one.want, true)
	}
}

func TestStrictOfWrongLists(t *testing.T) {
	for _, text := range []string{"1,2 3 3 1,4 . 4", "1,2 3 3 1,4 . 0,5"} {
		g := graphOf(text)
		for _, l := range badSets() {
			if plainRising(l, 5) {
				checkUses(t, g, l, []int{0, 4})
				checkUses(t, g, []int{0}, l)
				continue
			}
			for _, other := range [][]int{nil, {0}, {1, 3}, {0, 1, 2, 3, 4}, l} {
				checkStrict(t, g, l, other, false, false)
				checkStrict(t, g, other, l, false, false)
			}
		}
	}
}

func TestSetsAndUsesDrawn(t *testing.T) {
	r := draw(1102)
	strict, not, more := 0, 0, 0
	for range 4000 {
		g := drawGraph(&r, impl.MaxBlocks)
		reached := plainReached(g)
		sets := drawSets(&r, reached)
		checkSets(t, g, plainPreds(g), sets)
		checkSetsByWords(t, g, sets)
		joins, _ := impl.JoinsOf(g, sets)
		frontier, _ := impl.FrontierOf(g)
		for _, y := range joins {
			if !slices.ContainsFunc(sets, func(s int) bool { return slices.Contains(frontier[s], y) }) {
				more++
			}
		}
		some, uses := drawSome(&r, reached), drawSome(&r, reached)
		switch is := checkUses(t, g, some, uses); {
		case is && len(uses) > 0 && !slices.Contains(some, 0):
			strict++
		case !is && len(some) > 0:
			not++
		}
		if t.Failed() {
			t.FailNow()
		}
	}
	if strict < 150 || not < 500 || more < 500 {
		t.Errorf("too few strict ones: %d, others: %d, joins only of joins: %d", strict, not, more)
	}
}
