package tests

import (
	"slices"
	"testing"

	"loop.example/g00339/impl"
)

func TestPredsByHand(t *testing.T) {
	for _, one := range [][2]string{
		{".", "."},
		{"0", "0"},
		{"1 0", "1 0"},
		{"0,1 0,1", "0,1 0,1"},
		{"1 2 3 .", ". 0 1 2"},
		{"3 . 1 2", ". 2 3 0"},
		{"1,2 3 3 .", ". 0 0 1,2"},
		{"1,2 3 3 0,4 .", "3 0 0 1,2 3"},
		// Blocks that go on to themselves.
		{"1 1,2 .", ". 0,1 1"},
		{"0,1 1,2 0,1,2", "0,2 0,1,2 1,2"},
		// Rising, whatever the way on which they are reached.
		{"4 5 5 5 3 1,2,4", ". 5 5 4 0,5 1,2,3"},
		// Blocks that are not reached, but go on to reached ones, to others like them, or to themselves.
		{". 0", ". ."},
		{". 0,1", ". ."},
		{"2 2 .", ". . 0"},
		{"1,2 3 3 1,4 . 4", ". 0,3 0 1,2 3 ."},
		{"1 2 . 0,1,2,3", ". 0 1 ."},
		{". 2 1", ". . ."},
		{"0 0,1,2 0,1,2", "0 . ."},
		{"11 . . . . . . . . . 0,11 0", "11 . . . . . . . . . . 0"},
	} {
		checkPreds(t, graphOf(one[0]), listsOf(one[1]), true)
	}
	for blocks := 1; blocks <= impl.MaxBlocks; blocks++ {
		before, all := make([][]int, blocks), make([][]int, blocks)
		for b := range blocks {
			if b > 0 {
				before[b] = []int{b - 1}
			}
			all[b] = numbersTo(blocks)
		}
		checkPreds(t, straight(blocks), before, true)
		checkPreds(t, complete(blocks), all, true)
		checkPreds(t, impl.Graph{Next: make([][]int, blocks)}, make([][]int, blocks), true)
	}
}

func TestFrontierByHand(t *testing.T) {
	for _, one := range [][2]string{
		// Straight ways have none.
		{".", "."},
		{". .", ". ."},
		{"1 2 3 .", ". . . ."},
		{"3 . 1 2", ". . . ."},
		// Ways that part and join; that leap over; that part and end; one within another.
		{"1,2 3 3 .", ". 3 3 ."},
		{"1,2 3 3 4 .", ". 3 3 . ."},
		{"1,2 2 .", ". 2 ."},
		{"1,2 . .", ". . ."},
		{"1,2,3 4 4,5 5 5 .", ". 4 4,5 5 5 ."},
		{"1,5 2,3 4 4 6 6 .", ". 6 4 4 6 6 ."},
		{"1 2,3 4 4 5 .", ". . 4 4 . ."},
		// Loops: the head lies in its own frontier.
		{"0", "0"},
		{"1 0", "0 0"},
		{"1 1,2 .", ". 1 ."},
		{"1 2,3 1 .", ". 1 1 ."},
		{"1 2 3 1,4 0", "0 0,1 0,1 0,1 0"},
		{"1 2 2,3 1,4 .", ". 1 1,2 1 ."},
		{"1,2 3 3 0,4 .", "0 3 3 0 ."},
		{"1 2,3 4 4 1,5 .", ". 1 4 4 1 ."},
		{"0,1 0,1", "0 0,1"},
		// Loops with two entries: each entry lies in the other one's.
		{"1,2 2 1", ". 2 1"},
		{"1,2 2,3 1 .", ". 2 1 ."},
		{"1,2 2 1,2", ". 2 1,2"},
		{"1,2 3 4 2 1", ". 2 1 2 1"},
		{"1 2,3 3 2,4 .", ". . 3 2 ."},
		// Blocks that are not reached have none, and lie in none.
		{". 0", ". ."},
		{". 1", ". ."},
		{". 2 1", ". . ."},
		{"1 2 . 0,1,2,3", ". . . ."},
		{"1,2 3 3 1,4 . 4", ". 3 3 1 . ."},
		{"1,2 3 3 . 3", ". 3 3 . ."},
		{"1 1 0,1,2", ". 1 ."},
	} {
		checkFrontier(t, graphOf(one[0]), listsOf(one[1]), true)
	}
}

func TestFrontierOfMany(t *testing.T) {
	for blocks := 1; blocks <= impl.MaxBlocks; blocks++ {
		checkFrontier(t, straight(blocks), make([][]int, blocks), true)
		checkFrontier(t, impl.Graph{Next: make([][]int, blocks)}, make([][]int, blocks), true)
		// Each block goes on to each: all of them join there, 0 but to itself.
		all, back := make([][]int, blocks), make([][]int, blocks)
		for b := range blocks {
			all[b], back[b] = numbersTo(blocks), numbersTo(b+1)
		}
		all[0] = []int{0}
		checkFrontier(t, complete(blocks), all, true)
		// Loops within loops, all of which end at each block.
		checkFrontier(t, nextOf(blocks, func(b, c int) bool { return c <= b+1 }), back, true)
	}
}

func TestMeetingByHand(t *testing.T) {
	for _, one := range []struct {
		graph string
		a, b  int
		want  bool
	}{
		// One lies ahead of the other, with nothing that joins.
		{"1 2 3 .", 0, 1, false},
		{"1 2 3 .", 1, 3, false},
		{"1,2 3 3 .", 0, 3, false},
		{"1,2 3 3 .", 0, 1, false},
		// On two ways that join, at once or later on.
		{"1,2 3 3 .", 1, 2, true},
		{"1,2 3 4 5 5 .", 1, 2, true},
		{"1,2 3 4 5 5 .", 1, 4, true},
		{"1,2 3 4 5 5 .", 3, 4, true},
		// A way that leaps over: what it leaps over meets where it comes down.
		{"1,2 2 .", 1, 2, true},
		{"1,2 3 3 .", 1, 3, true},
		{"1,2 3 3 4 .", 1, 4, false},
		{"1,2 3 3 4 .", 3, 4, false},
		// Ways that part and never join.
		{"1,2 . .", 1, 2, false},
		{"1,2 3 4 . .", 1, 4, false},
		{"1,2 3 4 . .", 3, 2, false},
		// Frontiers of frontiers: 2 joins 3 at 4, and that joins 5 at 6.
		{"1,5 2,3 4 4 6 6 .", 2, 3, true},
		{"1,5 2,3 4 4 6 6 .", 2, 5, true},
		{"1,5 2,3 4 4 6 6 .", 2, 6, true},
		{"1,5 2,3 4 4 6 6 .", 3, 1, true},
		{"1,5 2,3 4 4 6 6 .", 0, 2, false},
		{"1,5 2,3 4 4 6 6 7 .", 2, 7, false},
		// Loops: what is in one meets its head, and all else in it.
		{"1 2,3 1 .", 1, 2, true},
		{"1 2,3 1 .", 0, 1, false},
		{"1 2,3 1 .", 0, 2, false},
		{"1 2,3 1 .", 2, 3, false},
		{"1 2,3 1 .", 1, 3, false},
		{"1 2 3 1,4 .", 2, 3, true},
		{"1 0", 0, 1, true},
		{"1 1,2 .", 1, 2, false},
		{"1 2,3 2 3", 2, 3, false},
		// Two loops, one behind the other, and one within another.
		{"1 2 1,3 4 3,5 .", 2, 4, false},
		{"1 2 2,3 1,4 .", 2, 3, true},
		// Loops with two entries.
		{"1,2 2 1", 1, 2, true},
		{"1,2 2 1", 0, 1, false},
		// Edges of blocks that are not reached join nothing.
		{"1,2 3 . . 2,3", 1, 2, false},
		{"1,2 3 . . 2,3", 3, 2, false},
	} {
		g := graphOf(one.graph)
		checkMeeting(t, g, one.a, one.b, one.want, true)
		checkMeeting(t, g, one.b, one.a, one.want, true)
	}
}

func TestMeetingOfOthers(t *testing.T) {
	far := []int{-1 << 63, -12, -1, 12, 13, 1 << 32, 1<<63 - 1}
	for blocks := 1; blocks <= impl.MaxBlocks; blocks++ {
		for _, g := range []impl.Graph{complete(blocks), straight(blocks)} {
			for b := range blocks {
				checkMeeting(t, g, b, b, false, false)
				for _, n := range append(far, blocks, -blocks, blocks+b) {
					if n < 0 || n >= blocks {
						checkMeeting(t, g, b, n, false, false)
						checkMeeting(t, g, n, b, false, false)
						checkMeeting(t, g, n, n, false, false)
						checkMeeting(t, g, n, n+1, false, false)
					}
				}
			}
		}
	}
	// Blocks that are not reached.
	for _, text := range []string{"1,2 3 3 1,4 . 4", "1,2 3 3 1,4 . 1,2,3", "1,2 3 3 1,4 . 5"} {
		for b := range 6 {
			checkMeeting(t, graphOf(text), 5, b, false, false)
			checkMeeting(t, graphOf(text), b, 5, false, false)
		}
	}
	checkMeeting(t, graphOf(". 2 1"), 1, 2, false, false)
	checkMeeting(t, graphOf(". 3 3 ."), 1, 2, false, false)
}

func TestEdgesOfAll(t *testing.T) {
	for blocks := 1; blocks <= 3; blocks++ {
		allGraphs(blocks, func(g impl.Graph) {
			checkEdges(t, g)
			if t.Failed() {
				t.FailNow()
			}
		})
	}
}

func TestEdgesDrawn(t *testing.T) {
	r := draw(1101)
	own, meet, apart := 0, 0, 0
	for range 800 {
		g := drawGraph(&r, impl.MaxBlocks)
		checkEdges(t, g)
		if t.Failed() {
			t.FailNow()
		}
		frontier, _ := impl.FrontierOf(g)
		for b := range g.Next {
			if slices.Contains(frontier[b], b) {
				own++
			}
			switch is, ok := impl.MeetingOf(g, b, len(g.Next)-1-b); {
			case is:
				meet++
			case ok:
				apart++
			}
		}
	}
	if own < 300 || meet < 300 || apart < 300 {
		t.Errorf("too few in their own frontier: %d, that meet: %d, that do not: %d", own, meet, apart)
	}
}
