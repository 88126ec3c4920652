package tests

import (
	"slices"
	"testing"

	"loop.example/g00339/impl"
)

func TestNeededByHand(t *testing.T) {
	looped := flowOf("1 1,2 .", ". 0 1,2", "0 1 .")
	both := flowOf("0", "3", "3")
	turns := flowOf("1 0", ". 3", "3 .")
	parts := flowOf("1,2 3 3 .", ". . 5 5,6", ". 5,6 6 .")
	for _, one := range []struct {
		flow impl.Flow
		way  string
		name int
		want bool
	}{
		{looped, "0", 0, false}, {looped, "0", 2, false}, {looped, "1", 0, true}, {looped, "1", 1, false}, {looped, "2", 1, true}, {looped, "2", 2, true}, {looped, "2", 0, false},
		{looped, "0,1", 0, false}, {looped, "0,1,2", 0, false}, {looped, "0,1,2", 1, false}, {looped, "0,1,2", 2, true}, {looped, "0,1,1,1,2", 2, true}, {looped, "0,1", 2, false},
		{looped, "1,1,2", 0, true}, {looped, "1,1,2", 1, false}, {looped, "1,1,2", 2, true}, {looped, "1,2", 1, false}, {looped, "1,1", 2, false}, {looped, "0,1,2", 7, false}, {looped, "0,1,2", 3, false},
		// Used and set in one block: used ahead of that; at its second time, too.
		{both, "0", 3, true}, {both, "0,0", 3, true}, {both, "0", 2, false}, {both, "0,0,0", 4, false},
		// Set in a block ahead of the use, or only behind it.
		{turns, "0", 3, false}, {turns, "1", 3, true}, {turns, "0,1", 3, false}, {turns, "1,0", 3, true}, {turns, "0,1,0,1", 3, false}, {turns, "1,0,1", 3, true},
		// It is the way that counts, not the other one.
		{parts, "0,1,3", 5, false}, {parts, "0,2,3", 5, true}, {parts, "0,1,3", 6, false}, {parts, "0,2,3", 6, false}, {parts, "1,3", 5, false}, {parts, "2", 5, true}, {parts, "3", 6, true}, {parts, "0", 5, false},
	} {
		checkNeeded(t, one.flow, numbersOf(one.way), one.name, one.want, true)
	}
}

// TestNeededCounts: ways of 1 to 30 blocks are answered, of 0 and of 31 and more are not; the last block counts, too.
func TestNeededCounts(t *testing.T) {
	free, set := flowOf("0,1 .", ". 4", ". ."), flowOf("0,1 .", ". 4", "4 .")
	for blocks := range 80 {
		is := blocks >= 1 && blocks <= 30
		stay := make([]int, blocks)
		checkNeeded(t, free, stay, 4, false, is)
		checkNeeded(t, set, stay, 4, false, is)
		if blocks > 0 {
			end := append(make([]int, blocks-1), 1)
			checkNeeded(t, free, end, 4, is, is)
			checkNeeded(t, set, end, 4, is && blocks == 1, is)
		}
	}
	checkNeeded(t, free, nil, 4, false, false)
	checkNeeded(t, free, make([]int, 1000000), 4, false, false)
}

func TestNeededOfNoNames(t *testing.T) {
	all := impl.Flow{Graph: graphOf("0"), Blocks: []impl.Block{{Uses: numbersTo(8)}}}
	for _, name := range []int{-1 << 63, -9, -8, -1, 8, 9, 12, 256, 1 << 32, 1<<63 - 1} {
		checkNeeded(t, all, []int{0}, name, false, false)
		checkNeeded(t, all, []int{0, 0}, name, false, false)
	}
	for name := range 8 {
		checkNeeded(t, all, []int{0}, name, true, true)
	}
}

func TestNoWays(t *testing.T) {
	const most, least = 1<<63 - 1, -1 << 63
	f := flowOf("1,2 3 3 1,4 . 4", "0 0 0 0 0 0", ". . . . . .")
	for _, way := range [][]int{
		nil, {}, {0, 0}, {0, 3}, {1, 0}, {0, 1, 2}, {0, 1, 3, 2}, {4, 4}, {4, 0}, {0, 1, 3, 4, 5}, {5, 0}, {0, 1, 3, 0},
		{-1}, {6}, {12}, {most}, {least}, {-1, 0}, {6, 0}, {0, -1}, {0, 6}, {0, 1, 3, 4, 6}, {0, 1, -1}, {0, 1, 3, most}, {least, 0, 1}, {0, least}, {3, 12}, numbersTo(31),
	} {
		for name := range 3 {
			checkNeeded(t, f, way, name, false, false)
		}
	}
	// Ways of blocks that are not reached are ways.
	checkNeeded(t, f, []int{5, 4}, 0, true, true)
	checkNeeded(t, f, []int{5}, 1, false, true)
}

// TestAllShortWays holds each row of few blocks, ways or not, against the words.
func TestAllShortWays(t *testing.T) {
	r := draw(1201)
	for range 200 {
		f := drawBlocks(&r, drawGraph(&r, 3))
		rows := [][]int{nil}
		for range 5 {
			var longer [][]int
			for _, row := range rows {
				is := len(row) > 0 && !slices.ContainsFunc(row, func(b int) bool { return b < 0 || b >= len(f.Blocks) })
				for k := 1; is && k < len(row); k++ {
					is = slices.Contains(f.Graph.Next[row[k-1]], row[k])
				}
				name := r.below(impl.MaxNames)
				checkNeeded(t, f, row, name, is && plainNeeded(f, row, name), is)
				for b := -1; b <= len(f.Blocks); b++ {
					longer = append(longer, append(slices.Clone(row), b))
				}
			}
			rows = longer
		}
	}
}

// TestLongWaysDrawn goes on as long as ways go, with names that are set and used on them.
func TestLongWaysDrawn(t *testing.T) {
	r := draw(1202)
	needed, late := 0, 0
	for range 3000 {
		f := drawBlocks(&r, drawGraph(&r, impl.MaxBlocks))
		way := []int{r.below(len(f.Blocks))}
		for len(way) < 30 {
			next := f.Graph.Next[way[len(way)-1]]
			if len(next) == 0 {
				break
			}
			way = append(way, next[r.below(len(next))])
		}
		for name := range impl.MaxNames {
			want := plainNeeded(f, way, name)
			checkNeeded(t, f, way, name, want, true)
			if want {
				needed++
			}
			if want && !plainNeeded(f, way[:(len(way)+1)/2], name) {
				late++
			}
		}
	}
	if needed < 3000 || late < 300 {
		t.Errorf("too few names that are needed: %d, late on a way: %d", needed, late)
	}
}
